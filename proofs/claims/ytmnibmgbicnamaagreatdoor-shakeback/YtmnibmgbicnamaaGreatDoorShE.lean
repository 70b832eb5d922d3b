/-
  Layer 8 (shake): the program's numbers and fields as bytes.
-/
import Derived.Test.YtmnibmgbicnamaaGreatDoorShD
namespace Go.Proofs.YtmnibmgbicnamaaGreatDoor
open Go.RowKit

/-- The last k bytes of a number of 64 bits, the highest first. -/
def beN (k : Nat) (n : Int) : List Int := (bytes8 n).drop (8 - k)
theorem beN_len (k : Nat) (hk : k ≤ 8) (n : Int) : (beN k n).length = k := by simp [beN, bytes8]; omega
theorem beN_4 (n : Int) : beN 4 n = be4 n := rfl
theorem beN_2 (n : Int) : beN 2 n = be2 n := rfl
theorem beN_8 (n : Int) : beN 8 n = bytes8 n := rfl
set_option maxRecDepth 100000 in
set_option maxHeartbeats 3200000 in
theorem sh_num2 (n : Int) {w : World} {V : Value} {zs : List Int} (hl : zs.length ≤ 70000000) (ho : Own w V zs) : Calls Tryz.prog 68 #[V, .int .i64 2, .int .u64 n] w fun e w' => ∃ V', e = .returned V' ∧ Own w' V' (zs ++ beN 2 n) ∧ Turned (blk V) w w' ∧ ∀ q, blk V' q → blk V q ∨ w.heap.size ≤ q := by
  have HO0 : Hid (Own w V zs) := ho
  clear ho
  go_enter Tryz.func68, Tryz.ntmps68
  go_wp2_with fail
  go_loopw [0, 7] (fun oo ii wr => ∃ j : Nat, ii = .int .i64 (8 - 8 * (j : Int)) ∧ j ≤ 2 ∧ Own wr oo (zs ++ (beN 2 n).take j) ∧ Turned (blk V) w wr ∧ ∀ q, blk oo q → blk V q ∨ w.heap.size ≤ q) (fun _ ii _ => (intOf ii + 8).toNat)
  case atStart => exact ⟨0, rfl, by omega, by simpa using HO0.out, Turned.refl _ _, fun _ h => .inl h⟩
  case round =>
    obtain ⟨j, rfl, hj, ho, hT, hb⟩ := hrel
    obtain ⟨ao, co, Lo, rfl⟩ : ∃ a c L, u0 = .slice a L c := ⟨_, _, _, ho.sl.form.choose_spec.choose_spec.1⟩
    by_cases hE : j = 2
    · subst hE
      have HO : Hid (Own wr (.slice ao Lo co) (zs ++ beN 2 n) ∧ Turned (blk V) w wr ∧ ∀ q, blk (.slice ao Lo co) q → blk V q ∨ w.heap.size ≤ q) := ⟨ho, hT, hb⟩
      clear ho hT hb
      go_wp2
      go_ret
      exact ⟨_, rfl, HO.out⟩
    · have hN : j = 0 ∨ j = 1 := by omega
      have HO : Hid (Own wr (.slice ao Lo co) (zs ++ (beN 2 n).take j) ∧ Turned (blk V) w wr ∧ ∀ q, blk (.slice ao Lo co) q → blk V q ∨ w.heap.size ≤ q) := ⟨ho, hT, hb⟩
      have HA := fun o : Obj => ho.turned (alloc0m wr o) (fun _ _ h => h)
      have hlen : (zs ++ (beN 2 n).take j).length + 1 ≤ 70368744177664 := by simp [beN, bytes8]; omega
      clear ho hT hb
      rcases hN with rfl | rfl
      · go_wp2_with (at_builtin; refine wpList_append_bytes (by rfl) (.tmp 15) (.tmp 20) (by rfl) Tryz.bytes (by rfl) (by rfl) (HA _) (Sl.one wr _ _).sl hlen ?_; intro v1 w5 ho1 ht1 hb1; have HN := Hid.mk7 (appendedV HO.out.2.1 HO.out.2.2 ho1 ht1 hb1); clear ho1 ht1 hb1)
        go_roundw
        case rel => exact ⟨1, by simp, by omega, by rw [show zs ++ (beN 2 n).take 1 = (zs ++ (beN 2 n).take 0) ++ [_] from by rw [List.append_assoc]; rfl]; exact HN.out.1, HN.out.2.1, HN.out.2.2⟩
        case measure => simp [intOf]
      · go_wp2_with (at_builtin; refine wpList_append_bytes (by rfl) (.tmp 15) (.tmp 20) (by rfl) Tryz.bytes (by rfl) (by rfl) (HA _) (Sl.one wr _ _).sl hlen ?_; intro v1 w5 ho1 ht1 hb1; have HN := Hid.mk7 (appendedV HO.out.2.1 HO.out.2.2 ho1 ht1 hb1); clear ho1 ht1 hb1)
        go_roundw
        case rel => exact ⟨2, by simp, by omega, by rw [show zs ++ (beN 2 n).take 2 = (zs ++ (beN 2 n).take 1) ++ [_] from by rw [List.append_assoc]; rfl]; exact HN.out.1, HN.out.2.1, HN.out.2.2⟩
        case measure => simp [intOf]
set_option maxRecDepth 100000 in
set_option maxHeartbeats 3200000 in
theorem sh_num4 (n : Int) {w : World} {V : Value} {zs : List Int} (hl : zs.length ≤ 70000000) (ho : Own w V zs) : Calls Tryz.prog 68 #[V, .int .i64 4, .int .u64 n] w fun e w' => ∃ V', e = .returned V' ∧ Own w' V' (zs ++ beN 4 n) ∧ Turned (blk V) w w' ∧ ∀ q, blk V' q → blk V q ∨ w.heap.size ≤ q := by
  have HO0 : Hid (Own w V zs) := ho
  clear ho
  go_enter Tryz.func68, Tryz.ntmps68
  go_wp2_with fail
  go_loopw [0, 7] (fun oo ii wr => ∃ j : Nat, ii = .int .i64 (24 - 8 * (j : Int)) ∧ j ≤ 4 ∧ Own wr oo (zs ++ (beN 4 n).take j) ∧ Turned (blk V) w wr ∧ ∀ q, blk oo q → blk V q ∨ w.heap.size ≤ q) (fun _ ii _ => (intOf ii + 8).toNat)
  case atStart => exact ⟨0, rfl, by omega, by simpa using HO0.out, Turned.refl _ _, fun _ h => .inl h⟩
  case round =>
    obtain ⟨j, rfl, hj, ho, hT, hb⟩ := hrel
    obtain ⟨ao, co, Lo, rfl⟩ : ∃ a c L, u0 = .slice a L c := ⟨_, _, _, ho.sl.form.choose_spec.choose_spec.1⟩
    by_cases hE : j = 4
    · subst hE
      have HO : Hid (Own wr (.slice ao Lo co) (zs ++ beN 4 n) ∧ Turned (blk V) w wr ∧ ∀ q, blk (.slice ao Lo co) q → blk V q ∨ w.heap.size ≤ q) := ⟨ho, hT, hb⟩
      clear ho hT hb
      go_wp2
      go_ret
      exact ⟨_, rfl, HO.out⟩
    · have hN : j = 0 ∨ j = 1 ∨ j = 2 ∨ j = 3 := by omega
      have HO : Hid (Own wr (.slice ao Lo co) (zs ++ (beN 4 n).take j) ∧ Turned (blk V) w wr ∧ ∀ q, blk (.slice ao Lo co) q → blk V q ∨ w.heap.size ≤ q) := ⟨ho, hT, hb⟩
      have HA := fun o : Obj => ho.turned (alloc0m wr o) (fun _ _ h => h)
      have hlen : (zs ++ (beN 4 n).take j).length + 1 ≤ 70368744177664 := by simp [beN, bytes8]; omega
      clear ho hT hb
      rcases hN with rfl | rfl | rfl | rfl
      · go_wp2_with (at_builtin; refine wpList_append_bytes (by rfl) (.tmp 15) (.tmp 20) (by rfl) Tryz.bytes (by rfl) (by rfl) (HA _) (Sl.one wr _ _).sl hlen ?_; intro v1 w5 ho1 ht1 hb1; have HN := Hid.mk7 (appendedV HO.out.2.1 HO.out.2.2 ho1 ht1 hb1); clear ho1 ht1 hb1)
        go_roundw
        case rel => exact ⟨1, by simp, by omega, by rw [show zs ++ (beN 4 n).take 1 = (zs ++ (beN 4 n).take 0) ++ [_] from by rw [List.append_assoc]; rfl]; exact HN.out.1, HN.out.2.1, HN.out.2.2⟩
        case measure => simp [intOf]
      · go_wp2_with (at_builtin; refine wpList_append_bytes (by rfl) (.tmp 15) (.tmp 20) (by rfl) Tryz.bytes (by rfl) (by rfl) (HA _) (Sl.one wr _ _).sl hlen ?_; intro v1 w5 ho1 ht1 hb1; have HN := Hid.mk7 (appendedV HO.out.2.1 HO.out.2.2 ho1 ht1 hb1); clear ho1 ht1 hb1)
        go_roundw
        case rel => exact ⟨2, by simp, by omega, by rw [show zs ++ (beN 4 n).take 2 = (zs ++ (beN 4 n).take 1) ++ [_] from by rw [List.append_assoc]; rfl]; exact HN.out.1, HN.out.2.1, HN.out.2.2⟩
        case measure => simp [intOf]
      · go_wp2_with (at_builtin; refine wpList_append_bytes (by rfl) (.tmp 15) (.tmp 20) (by rfl) Tryz.bytes (by rfl) (by rfl) (HA _) (Sl.one wr _ _).sl hlen ?_; intro v1 w5 ho1 ht1 hb1; have HN := Hid.mk7 (appendedV HO.out.2.1 HO.out.2.2 ho1 ht1 hb1); clear ho1 ht1 hb1)
        go_roundw
        case rel => exact ⟨3, by simp, by omega, by rw [show zs ++ (beN 4 n).take 3 = (zs ++ (beN 4 n).take 2) ++ [_] from by rw [List.append_assoc]; rfl]; exact HN.out.1, HN.out.2.1, HN.out.2.2⟩
        case measure => simp [intOf]
      · go_wp2_with (at_builtin; refine wpList_append_bytes (by rfl) (.tmp 15) (.tmp 20) (by rfl) Tryz.bytes (by rfl) (by rfl) (HA _) (Sl.one wr _ _).sl hlen ?_; intro v1 w5 ho1 ht1 hb1; have HN := Hid.mk7 (appendedV HO.out.2.1 HO.out.2.2 ho1 ht1 hb1); clear ho1 ht1 hb1)
        go_roundw
        case rel => exact ⟨4, by simp, by omega, by rw [show zs ++ (beN 4 n).take 4 = (zs ++ (beN 4 n).take 3) ++ [_] from by rw [List.append_assoc]; rfl]; exact HN.out.1, HN.out.2.1, HN.out.2.2⟩
        case measure => simp [intOf]
set_option maxRecDepth 100000 in
set_option maxHeartbeats 3200000 in
theorem sh_num8 (n : Int) {w : World} {V : Value} {zs : List Int} (hl : zs.length ≤ 70000000) (ho : Own w V zs) : Calls Tryz.prog 68 #[V, .int .i64 8, .int .u64 n] w fun e w' => ∃ V', e = .returned V' ∧ Own w' V' (zs ++ beN 8 n) ∧ Turned (blk V) w w' ∧ ∀ q, blk V' q → blk V q ∨ w.heap.size ≤ q := by
  have HO0 : Hid (Own w V zs) := ho
  clear ho
  go_enter Tryz.func68, Tryz.ntmps68
  go_wp2_with fail
  go_loopw [0, 7] (fun oo ii wr => ∃ j : Nat, ii = .int .i64 (56 - 8 * (j : Int)) ∧ j ≤ 8 ∧ Own wr oo (zs ++ (beN 8 n).take j) ∧ Turned (blk V) w wr ∧ ∀ q, blk oo q → blk V q ∨ w.heap.size ≤ q) (fun _ ii _ => (intOf ii + 8).toNat)
  case atStart => exact ⟨0, rfl, by omega, by simpa using HO0.out, Turned.refl _ _, fun _ h => .inl h⟩
  case round =>
    obtain ⟨j, rfl, hj, ho, hT, hb⟩ := hrel
    obtain ⟨ao, co, Lo, rfl⟩ : ∃ a c L, u0 = .slice a L c := ⟨_, _, _, ho.sl.form.choose_spec.choose_spec.1⟩
    by_cases hE : j = 8
    · subst hE
      have HO : Hid (Own wr (.slice ao Lo co) (zs ++ beN 8 n) ∧ Turned (blk V) w wr ∧ ∀ q, blk (.slice ao Lo co) q → blk V q ∨ w.heap.size ≤ q) := ⟨ho, hT, hb⟩
      clear ho hT hb
      go_wp2
      go_ret
      exact ⟨_, rfl, HO.out⟩
    · have hN : j = 0 ∨ j = 1 ∨ j = 2 ∨ j = 3 ∨ j = 4 ∨ j = 5 ∨ j = 6 ∨ j = 7 := by omega
      have HO : Hid (Own wr (.slice ao Lo co) (zs ++ (beN 8 n).take j) ∧ Turned (blk V) w wr ∧ ∀ q, blk (.slice ao Lo co) q → blk V q ∨ w.heap.size ≤ q) := ⟨ho, hT, hb⟩
      have HA := fun o : Obj => ho.turned (alloc0m wr o) (fun _ _ h => h)
      have hlen : (zs ++ (beN 8 n).take j).length + 1 ≤ 70368744177664 := by simp [beN, bytes8]; omega
      clear ho hT hb
      rcases hN with rfl | rfl | rfl | rfl | rfl | rfl | rfl | rfl
      · go_wp2_with (at_builtin; refine wpList_append_bytes (by rfl) (.tmp 15) (.tmp 20) (by rfl) Tryz.bytes (by rfl) (by rfl) (HA _) (Sl.one wr _ _).sl hlen ?_; intro v1 w5 ho1 ht1 hb1; have HN := Hid.mk7 (appendedV HO.out.2.1 HO.out.2.2 ho1 ht1 hb1); clear ho1 ht1 hb1)
        go_roundw
        case rel => exact ⟨1, by simp, by omega, by rw [show zs ++ (beN 8 n).take 1 = (zs ++ (beN 8 n).take 0) ++ [_] from by rw [List.append_assoc]; rfl]; exact HN.out.1, HN.out.2.1, HN.out.2.2⟩
        case measure => simp [intOf]
      · go_wp2_with (at_builtin; refine wpList_append_bytes (by rfl) (.tmp 15) (.tmp 20) (by rfl) Tryz.bytes (by rfl) (by rfl) (HA _) (Sl.one wr _ _).sl hlen ?_; intro v1 w5 ho1 ht1 hb1; have HN := Hid.mk7 (appendedV HO.out.2.1 HO.out.2.2 ho1 ht1 hb1); clear ho1 ht1 hb1)
        go_roundw
        case rel => exact ⟨2, by simp, by omega, by rw [show zs ++ (beN 8 n).take 2 = (zs ++ (beN 8 n).take 1) ++ [_] from by rw [List.append_assoc]; rfl]; exact HN.out.1, HN.out.2.1, HN.out.2.2⟩
        case measure => simp [intOf]
      · go_wp2_with (at_builtin; refine wpList_append_bytes (by rfl) (.tmp 15) (.tmp 20) (by rfl) Tryz.bytes (by rfl) (by rfl) (HA _) (Sl.one wr _ _).sl hlen ?_; intro v1 w5 ho1 ht1 hb1; have HN := Hid.mk7 (appendedV HO.out.2.1 HO.out.2.2 ho1 ht1 hb1); clear ho1 ht1 hb1)
        go_roundw
        case rel => exact ⟨3, by simp, by omega, by rw [show zs ++ (beN 8 n).take 3 = (zs ++ (beN 8 n).take 2) ++ [_] from by rw [List.append_assoc]; rfl]; exact HN.out.1, HN.out.2.1, HN.out.2.2⟩
        case measure => simp [intOf]
      · go_wp2_with (at_builtin; refine wpList_append_bytes (by rfl) (.tmp 15) (.tmp 20) (by rfl) Tryz.bytes (by rfl) (by rfl) (HA _) (Sl.one wr _ _).sl hlen ?_; intro v1 w5 ho1 ht1 hb1; have HN := Hid.mk7 (appendedV HO.out.2.1 HO.out.2.2 ho1 ht1 hb1); clear ho1 ht1 hb1)
        go_roundw
        case rel => exact ⟨4, by simp, by omega, by rw [show zs ++ (beN 8 n).take 4 = (zs ++ (beN 8 n).take 3) ++ [_] from by rw [List.append_assoc]; rfl]; exact HN.out.1, HN.out.2.1, HN.out.2.2⟩
        case measure => simp [intOf]
      · go_wp2_with (at_builtin; refine wpList_append_bytes (by rfl) (.tmp 15) (.tmp 20) (by rfl) Tryz.bytes (by rfl) (by rfl) (HA _) (Sl.one wr _ _).sl hlen ?_; intro v1 w5 ho1 ht1 hb1; have HN := Hid.mk7 (appendedV HO.out.2.1 HO.out.2.2 ho1 ht1 hb1); clear ho1 ht1 hb1)
        go_roundw
        case rel => exact ⟨5, by simp, by omega, by rw [show zs ++ (beN 8 n).take 5 = (zs ++ (beN 8 n).take 4) ++ [_] from by rw [List.append_assoc]; rfl]; exact HN.out.1, HN.out.2.1, HN.out.2.2⟩
        case measure => simp [intOf]
      · go_wp2_with (at_builtin; refine wpList_append_bytes (by rfl) (.tmp 15) (.tmp 20) (by rfl) Tryz.bytes (by rfl) (by rfl) (HA _) (Sl.one wr _ _).sl hlen ?_; intro v1 w5 ho1 ht1 hb1; have HN := Hid.mk7 (appendedV HO.out.2.1 HO.out.2.2 ho1 ht1 hb1); clear ho1 ht1 hb1)
        go_roundw
        case rel => exact ⟨6, by simp, by omega, by rw [show zs ++ (beN 8 n).take 6 = (zs ++ (beN 8 n).take 5) ++ [_] from by rw [List.append_assoc]; rfl]; exact HN.out.1, HN.out.2.1, HN.out.2.2⟩
        case measure => simp [intOf]
      · go_wp2_with (at_builtin; refine wpList_append_bytes (by rfl) (.tmp 15) (.tmp 20) (by rfl) Tryz.bytes (by rfl) (by rfl) (HA _) (Sl.one wr _ _).sl hlen ?_; intro v1 w5 ho1 ht1 hb1; have HN := Hid.mk7 (appendedV HO.out.2.1 HO.out.2.2 ho1 ht1 hb1); clear ho1 ht1 hb1)
        go_roundw
        case rel => exact ⟨7, by simp, by omega, by rw [show zs ++ (beN 8 n).take 7 = (zs ++ (beN 8 n).take 6) ++ [_] from by rw [List.append_assoc]; rfl]; exact HN.out.1, HN.out.2.1, HN.out.2.2⟩
        case measure => simp [intOf]
      · go_wp2_with (at_builtin; refine wpList_append_bytes (by rfl) (.tmp 15) (.tmp 20) (by rfl) Tryz.bytes (by rfl) (by rfl) (HA _) (Sl.one wr _ _).sl hlen ?_; intro v1 w5 ho1 ht1 hb1; have HN := Hid.mk7 (appendedV HO.out.2.1 HO.out.2.2 ho1 ht1 hb1); clear ho1 ht1 hb1)
        go_roundw
        case rel => exact ⟨8, by simp, by omega, by rw [show zs ++ (beN 8 n).take 8 = (zs ++ (beN 8 n).take 7) ++ [_] from by rw [List.append_assoc]; rfl]; exact HN.out.1, HN.out.2.1, HN.out.2.2⟩
        case measure => simp [intOf]
theorem sh_number (k : Nat) (hk : k = 2 ∨ k = 4 ∨ k = 8) (n : Int) {w : World} {V : Value} {zs : List Int} (hl : zs.length ≤ 70000000) (ho : Own w V zs) : Calls Tryz.prog 68 #[V, .int .i64 k, .int .u64 n] w fun e w' => ∃ V', e = .returned V' ∧ Own w' V' (zs ++ beN k n) ∧ Turned (blk V) w w' ∧ ∀ q, blk V' q → blk V q ∨ w.heap.size ≤ q := by
  rcases hk with rfl | rfl | rfl
  · exact sh_num2 n hl ho
  · exact sh_num4 n hl ho
  · exact sh_num8 n hl ho
end Go.Proofs.YtmnibmgbicnamaaGreatDoor
