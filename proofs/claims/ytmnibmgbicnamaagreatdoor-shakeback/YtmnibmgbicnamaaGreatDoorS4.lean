/-
  Layer 8 (shake): the document's numbers as bytes, and out of bytes.
-/
import Derived.Test.YtmnibmgbicnamaaGreatDoorS3
import Derived.Test.YtmnibmgbicnamaaGreatDoorSPure
namespace Go.Proofs.YtmnibmgbicnamaaGreatDoor
open Go.RowKit

theorem Sl.four (w : World) (t : TypeId) (a b c d : Int) : Own (w.alloc (.cells #[.int .u8 a, .int .u8 b, .int .u8 c, .int .u8 d] t)) (.slice (some ⟨w.heap.size, 0, none⟩) 4 4) [a, b, c, d] := by
  refine .inr ⟨w.heap.size, 0, 4, rfl, Nat.le_refl _, by decide, by simp, fun j hj => ?_, fun j hj => ?_⟩
  · have : j = 0 ∨ j = 1 ∨ j = 2 ∨ j = 3 := by simp at hj; omega
    rcases this with rfl | rfl | rfl | rfl <;> simp
  · have : j = 0 ∨ j = 1 ∨ j = 2 ∨ j = 3 := by omega
    rcases this with rfl | rfl | rfl | rfl <;> exact ⟨by simp, by simp⟩
theorem four_told {w w1 : World} {o : Obj} {V v1 : Value} {zs : List Int} (ho1 : Own w1 v1 zs) (ht1 : Turned (blk V) (w.alloc o) w1) (hb1 : ∀ k, blk v1 k → blk V k ∨ k = (w.alloc o).heap.size) : Own w1 v1 zs ∧ Turned (blk V) w w1 ∧ ∀ k, blk v1 k → blk V k ∨ w.heap.size ≤ k :=
  ⟨ho1, ((alloc0m w o).mono (fun _ h => h.elim)).trans ht1 (fun _ h => .inl h), fun k hk => (hb1 k hk).imp id (fun h => by simp at h; omega)⟩
set_option maxRecDepth 100000 in
set_option maxHeartbeats 1600000 in
theorem ref_four (n : Int) {w : World} {V : Value} {zs : List Int} (hl : zs.length ≤ 1000) (ho : Own w V zs) : Calls Tryz.prog 35 #[V, .int .u32 n] w fun e w' => ∃ V', e = .returned V' ∧ Own w' V' (zs ++ be4 n) ∧ Turned (blk V) w w' ∧ ∀ k, blk V' k → blk V k ∨ w.heap.size ≤ k := by
  have HA := fun o : Obj => ho.turned (alloc0m w o) (fun _ _ h => h)
  have hlen : zs.length + 4 ≤ 70368744177664 := by omega
  obtain ⟨ao, co, Lo, rfl⟩ : ∃ a c L, V = .slice a L c := ⟨_, _, _, ho.sl.form.choose_spec.choose_spec.1⟩
  clear ho hl
  go_enter Tryz.func35, Tryz.ntmps35
  go_wp2_with (at_builtin; refine wpList_append_bytes (by rfl) (.tmp 5) (.tmp 17) (by rfl) Tryz.bytes (by rfl) (by rfl) (HA _) (Sl.four w _ _ _ _ _).sl hlen ?_; intro v1 w1 ho1 ht1 hb1; have HN := Hid.mk7 (four_told ho1 ht1 hb1); clear ho1 ht1 hb1)
  go_ret
  exact ⟨_, rfl, HN.out⟩
end Go.Proofs.YtmnibmgbicnamaaGreatDoor
