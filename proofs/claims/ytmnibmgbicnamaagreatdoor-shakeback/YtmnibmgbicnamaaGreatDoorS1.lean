/-
  Layer 8 (shake): the document's names of nodes; its refusals over those of the layers below.
-/
import Derived.Test.YtmnibmgbicnamaaGreatDoorS0
namespace Go.Proofs.YtmnibmgbicnamaaGreatDoor
open Go.RowKit

set_option maxRecDepth 100000 in
/-- The document's refusal over a chain of one: its number is that one's. -/
theorem sh_over (a : Int) (y : Lnk) {B : Nat} {w : World} {l : Value} (hl : LinksC B w l [y]) : Calls Tryz.prog 37 #[.int .i64 a, l] w fun e w' => ∃ v, e = .returned v ∧ LinksC w.heap.size w' v [⟨lyShake, a, y.code⟩, y] ∧ Below w.heap.size w w' := by
  have hov := over_any lyShake a y.code y hl
  obtain ⟨lb, cap, _, rfl, hc⟩ := hl
  have k2 := hc.c2
  simp only [Nat.zero_add] at k2
  clear hc
  unfold lyShake at hov ⊢
  go_enter Tryz.func37, Tryz.ntmps37
  go_wp2_with fail
  refine hov.mono ?_
  rintro e w1 ⟨v, rfl, h1, h2⟩
  go_wp2
  go_ret
  exact ⟨v, rfl, h1, h2⟩

set_option maxRecDepth 100000 in
theorem in_word (c : Int) (w : World) : Calls Tryz.prog 69 #[.int .u8 c] w fun e w' => e = .returned (.bool (inWordB c)) ∧ w = w' := by
  go_enter Tryz.func69, Tryz.ntmps69
  go_wp2
  all_goals go_ret
  all_goals
    refine ⟨congrArg Ending.returned (congrArg Value.bool ?_), rfl⟩
    rw [Bool.eq_iff_iff]
    simp [inWordB]
    try omega

theorem nodeScan_step (s : ByteArray) (i : Nat) (h : i < s.size) (a : Int) (g : Bool) : nodeScan ((nums s).drop i) i a g = if (s[i].toNat : Int) = 64 then nodeScan ((nums s).drop (i + 1)) (i + 1) i (g && decide (a < 0)) else nodeScan ((nums s).drop (i + 1)) (i + 1) a (g && (inWordB (s[i].toNat : Int) || decide ((s[i].toNat : Int) = 45) || (decide ((s[i].toNat : Int) = 46) && decide (0 ≤ a)))) := by
  have h' : i < (nums s).length := by rw [nums_length]; exact h
  rw [List.drop_eq_getElem_cons h', nums_get s i h h']
  rfl
theorem nodeScan_end (s : ByteArray) (a : Int) (g : Bool) : nodeScan ((nums s).drop s.size) s.size a g = (a, g) := by rw [List.drop_eq_nil_of_le (by rw [nums_length]; exact Nat.le_refl _)]; rfl

end Go.Proofs.YtmnibmgbicnamaaGreatDoor
