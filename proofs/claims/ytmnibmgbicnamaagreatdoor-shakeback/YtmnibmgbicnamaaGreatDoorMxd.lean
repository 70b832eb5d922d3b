/-
  Layer 7 (mix): the program's appendNumber.
-/
import Derived.Test.YtmnibmgbicnamaaGreatDoorMxc
namespace Go.Proofs.YtmnibmgbicnamaaGreatDoor
open Go.RowKit

/-- A byte behind what is there. -/
theorem appendedV {w wr w1 : World} {o : Obj} {V v v1 : Value} {zs : List Int} (hT : Turned (blk V) w wr) (hb : ∀ q, blk v q → blk V q ∨ w.heap.size ≤ q) (ho1 : Own w1 v1 zs) (ht1 : Turned (blk v) (wr.alloc o) w1) (hb1 : ∀ k, blk v1 k → blk v k ∨ k = (wr.alloc o).heap.size) :
    Own w1 v1 zs ∧ Turned (blk V) w w1 ∧ ∀ q, blk v1 q → blk V q ∨ w.heap.size ≤ q :=
  ⟨ho1, (hT.trans (alloc0m wr o) (fun _ h => h.elim)).trans ht1 hb, fun k hk => (hb1 k hk).elim (hb k) (fun h => .inr (by have := hT.size; simp at h; omega))⟩

set_option maxRecDepth 100000 in
set_option maxHeartbeats 1600000 in
theorem mix_append (n : Int) {w : World} {V : Value} {zs : List Int} (hl : zs.length ≤ 8) (ho : Own w V zs) : Calls Tryz.prog 121 #[V, .int .u64 n] w fun e w' => ∃ V', e = .returned V' ∧ Own w' V' (zs ++ bytes8 n) ∧ Turned (blk V) w w' ∧ ∀ k, blk V' k → blk V k ∨ w.heap.size ≤ k := by
  have HO0 : Hid (Own w V zs) := ho
  clear ho
  go_enter Tryz.func121, Tryz.ntmps121
  go_wp2_with fail
  go_loopw [0, 5] (fun oo ii wr => ∃ j : Nat, ii = .int .i64 (56 - 8 * (j : Int)) ∧ j ≤ 8 ∧ Own wr oo (zs ++ (bytes8 n).take j) ∧ Turned (blk V) w wr ∧ ∀ q, blk oo q → blk V q ∨ w.heap.size ≤ q) (fun _ ii _ => (intOf ii + 8).toNat)
  case atStart => exact ⟨0, rfl, by omega, by simpa using HO0.out, Turned.refl _ _, fun _ h => .inl h⟩
  case round =>
    obtain ⟨j, rfl, hj, ho, hT, hb⟩ := hrel
    obtain ⟨ao, co, Lo, rfl⟩ : ∃ a c L, u0 = .slice a L c := ⟨_, _, _, ho.sl.form.choose_spec.choose_spec.1⟩
    by_cases h8 : j = 8
    · subst h8
      have HO : Hid (Own wr (.slice ao Lo co) (zs ++ bytes8 n) ∧ Turned (blk V) w wr ∧ ∀ q, blk (.slice ao Lo co) q → blk V q ∨ w.heap.size ≤ q) := ⟨ho, hT, hb⟩
      clear ho hT hb
      go_wp2
      go_ret
      exact ⟨_, rfl, HO.out⟩
    · have h7 : j = 0 ∨ j = 1 ∨ j = 2 ∨ j = 3 ∨ j = 4 ∨ j = 5 ∨ j = 6 ∨ j = 7 := by omega
      have HO : Hid (Own wr (.slice ao Lo co) (zs ++ (bytes8 n).take j) ∧ Turned (blk V) w wr ∧ ∀ q, blk (.slice ao Lo co) q → blk V q ∨ w.heap.size ≤ q) := ⟨ho, hT, hb⟩
      have HA := fun o : Obj => ho.turned (alloc0m wr o) (fun _ _ h => h)
      have hlen : (zs ++ (bytes8 n).take j).length + 1 ≤ 70368744177664 := by simp [bytes8]; omega
      clear ho hT hb
      rcases h7 with rfl | rfl | rfl | rfl | rfl | rfl | rfl | rfl
      · go_wp2_with (at_builtin; refine wpList_append_bytes (by rfl) (.tmp 10) (.tmp 15) (by rfl) Tryz.bytes (by rfl) (by rfl) (HA _) (Sl.one wr _ _).sl hlen ?_; intro v1 w5 ho1 ht1 hb1; have HN := Hid.mk7 (appendedV HO.out.2.1 HO.out.2.2 ho1 ht1 hb1); clear ho1 ht1 hb1)
        go_roundw
        case rel => exact ⟨1, by simp, by omega, by rw [show zs ++ (bytes8 n).take 1 = (zs ++ (bytes8 n).take 0) ++ [_] from by rw [List.append_assoc]; rfl]; exact HN.out.1, HN.out.2.1, HN.out.2.2⟩
        case measure => simp [intOf]
      · go_wp2_with (at_builtin; refine wpList_append_bytes (by rfl) (.tmp 10) (.tmp 15) (by rfl) Tryz.bytes (by rfl) (by rfl) (HA _) (Sl.one wr _ _).sl hlen ?_; intro v1 w5 ho1 ht1 hb1; have HN := Hid.mk7 (appendedV HO.out.2.1 HO.out.2.2 ho1 ht1 hb1); clear ho1 ht1 hb1)
        go_roundw
        case rel => exact ⟨2, by simp, by omega, by rw [show zs ++ (bytes8 n).take 2 = (zs ++ (bytes8 n).take 1) ++ [_] from by rw [List.append_assoc]; rfl]; exact HN.out.1, HN.out.2.1, HN.out.2.2⟩
        case measure => simp [intOf]
      · go_wp2_with (at_builtin; refine wpList_append_bytes (by rfl) (.tmp 10) (.tmp 15) (by rfl) Tryz.bytes (by rfl) (by rfl) (HA _) (Sl.one wr _ _).sl hlen ?_; intro v1 w5 ho1 ht1 hb1; have HN := Hid.mk7 (appendedV HO.out.2.1 HO.out.2.2 ho1 ht1 hb1); clear ho1 ht1 hb1)
        go_roundw
        case rel => exact ⟨3, by simp, by omega, by rw [show zs ++ (bytes8 n).take 3 = (zs ++ (bytes8 n).take 2) ++ [_] from by rw [List.append_assoc]; rfl]; exact HN.out.1, HN.out.2.1, HN.out.2.2⟩
        case measure => simp [intOf]
      · go_wp2_with (at_builtin; refine wpList_append_bytes (by rfl) (.tmp 10) (.tmp 15) (by rfl) Tryz.bytes (by rfl) (by rfl) (HA _) (Sl.one wr _ _).sl hlen ?_; intro v1 w5 ho1 ht1 hb1; have HN := Hid.mk7 (appendedV HO.out.2.1 HO.out.2.2 ho1 ht1 hb1); clear ho1 ht1 hb1)
        go_roundw
        case rel => exact ⟨4, by simp, by omega, by rw [show zs ++ (bytes8 n).take 4 = (zs ++ (bytes8 n).take 3) ++ [_] from by rw [List.append_assoc]; rfl]; exact HN.out.1, HN.out.2.1, HN.out.2.2⟩
        case measure => simp [intOf]
      · go_wp2_with (at_builtin; refine wpList_append_bytes (by rfl) (.tmp 10) (.tmp 15) (by rfl) Tryz.bytes (by rfl) (by rfl) (HA _) (Sl.one wr _ _).sl hlen ?_; intro v1 w5 ho1 ht1 hb1; have HN := Hid.mk7 (appendedV HO.out.2.1 HO.out.2.2 ho1 ht1 hb1); clear ho1 ht1 hb1)
        go_roundw
        case rel => exact ⟨5, by simp, by omega, by rw [show zs ++ (bytes8 n).take 5 = (zs ++ (bytes8 n).take 4) ++ [_] from by rw [List.append_assoc]; rfl]; exact HN.out.1, HN.out.2.1, HN.out.2.2⟩
        case measure => simp [intOf]
      · go_wp2_with (at_builtin; refine wpList_append_bytes (by rfl) (.tmp 10) (.tmp 15) (by rfl) Tryz.bytes (by rfl) (by rfl) (HA _) (Sl.one wr _ _).sl hlen ?_; intro v1 w5 ho1 ht1 hb1; have HN := Hid.mk7 (appendedV HO.out.2.1 HO.out.2.2 ho1 ht1 hb1); clear ho1 ht1 hb1)
        go_roundw
        case rel => exact ⟨6, by simp, by omega, by rw [show zs ++ (bytes8 n).take 6 = (zs ++ (bytes8 n).take 5) ++ [_] from by rw [List.append_assoc]; rfl]; exact HN.out.1, HN.out.2.1, HN.out.2.2⟩
        case measure => simp [intOf]
      · go_wp2_with (at_builtin; refine wpList_append_bytes (by rfl) (.tmp 10) (.tmp 15) (by rfl) Tryz.bytes (by rfl) (by rfl) (HA _) (Sl.one wr _ _).sl hlen ?_; intro v1 w5 ho1 ht1 hb1; have HN := Hid.mk7 (appendedV HO.out.2.1 HO.out.2.2 ho1 ht1 hb1); clear ho1 ht1 hb1)
        go_roundw
        case rel => exact ⟨7, by simp, by omega, by rw [show zs ++ (bytes8 n).take 7 = (zs ++ (bytes8 n).take 6) ++ [_] from by rw [List.append_assoc]; rfl]; exact HN.out.1, HN.out.2.1, HN.out.2.2⟩
        case measure => simp [intOf]
      · go_wp2_with (at_builtin; refine wpList_append_bytes (by rfl) (.tmp 10) (.tmp 15) (by rfl) Tryz.bytes (by rfl) (by rfl) (HA _) (Sl.one wr _ _).sl hlen ?_; intro v1 w5 ho1 ht1 hb1; have HN := Hid.mk7 (appendedV HO.out.2.1 HO.out.2.2 ho1 ht1 hb1); clear ho1 ht1 hb1)
        go_roundw
        case rel => exact ⟨8, by simp, by omega, by rw [show zs ++ (bytes8 n).take 8 = (zs ++ (bytes8 n).take 7) ++ [_] from by rw [List.append_assoc]; rfl]; exact HN.out.1, HN.out.2.1, HN.out.2.2⟩
        case measure => simp [intOf]
end Go.Proofs.YtmnibmgbicnamaaGreatDoor
