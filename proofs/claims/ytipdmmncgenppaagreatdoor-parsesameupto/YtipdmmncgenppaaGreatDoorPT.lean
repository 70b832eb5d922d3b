/-
  Layer 11 (parse), of lists alone: what is below some nodes. The program's meet.
-/
import Derived.Test.YtipdmmncgenppaaGreatDoorPS
import Derived.Laws.MakeOwn
namespace Go.Proofs.YtipdmmncgenppaaGreatDoor
open Go.RowKit

/-- Marks the numbers that are such. -/
def markL (p : Int → Bool) : List Int → List Bool → List Bool
  | [], m => m
  | k :: ks, m => markL p ks (if p k then m.set k.toNat true else m)
def lowB (i : Int) (k : Int) : Bool := decide (0 ≤ k ∧ k < i)
/-- From the highest down, marks the Kids of what is marked. -/
def downS (kids : Nat → List Int) : Nat → List Bool → List Bool
  | 0, m => m
  | i + 1, m => downS kids i (if (m[i]?).getD false then markL (lowB i) (kids i) m else m)
/-- Which places are marked. -/
def marked : Nat → List Bool → List Int
  | _, [] => []
  | i, b :: r => if b then (i : Int) :: marked (i + 1) r else marked (i + 1) r
/-- What is below some of n nodes. -/
def belowS (n : Nat) (kids : Nat → List Int) (roots : List Int) : List Int := marked 0 (downS kids n (markL (lowB n) roots (List.replicate n false)))

theorem markL_length (p : Int → Bool) : ∀ (l : List Int) (m : List Bool), (markL p l m).length = m.length
  | [], _ => rfl
  | k :: ks, m => by rw [markL, markL_length p ks]; split <;> simp
theorem downS_length (kids : Nat → List Int) : ∀ (i : Nat) (m : List Bool), (downS kids i m).length = m.length
  | 0, _ => rfl
  | i + 1, m => by rw [downS, downS_length kids i]; split <;> simp [markL_length]
theorem marked_le : ∀ (l : List Bool) (i : Nat), (marked i l).length ≤ l.length
  | [], _ => Nat.le_refl _
  | b :: r, i => by
    have := marked_le r (i + 1)
    rw [marked]
    split <;> simp <;> omega
theorem belowS_le (n : Nat) (kids : Nat → List Int) (roots : List Int) : (belowS n kids roots).length ≤ n := by
  have := marked_le (downS kids n (markL (lowB n) roots (List.replicate n false))) 0
  rw [downS_length, markL_length, List.length_replicate] at this
  exact this
/-- Marks in a block of one's own. -/
structure MetAt (w : World) (g : Nat) (m : List Bool) : Prop where
  lt : g < w.heap.size
  c : ∀ j (h : j < m.length), w.cell? ⟨g, j, none⟩ = some (.bool m[j]) ∧ w.frozen? ⟨g, j, none⟩ = false
theorem MetAt.turned {S : Nat → Prop} {w w' : World} {g : Nat} {m : List Bool} (h : MetAt w g m) (T : Turned S w w') (hs : ¬ S g) : MetAt w' g m :=
  ⟨Nat.lt_of_lt_of_le h.lt T.size, fun j hj => ⟨T.cell (h.c j hj).1 hs, by rw [T.frozen (p := ⟨g, j, none⟩) h.lt hs]; exact (h.c j hj).2⟩⟩
theorem MetAt.set {w : World} {g : Nat} {m : List Bool} (h : MetAt w g m) (k : Nat) (hk : k < m.length) : MetAt (w.setCell ⟨g, k, none⟩ (.bool true)) g (m.set k true) := by
  refine ⟨by simp [World.setCell]; exact h.lt, fun j hj => ⟨?_, by rw [World.frozen?_setCell]; exact (h.c j (by simpa using hj)).2⟩⟩
  have hj' : j < m.length := by simpa using hj
  by_cases hkj : k = j
  · subst hkj
    rw [World.cell?_setCell_same _ _ _ (h.c k hk).1]
    simp
  · rw [World.cell?_setCell_other _ _ _ _ (by simp; try omega), (h.c j hj').1]
    simp [List.getElem_set_ne hkj]
/-- Numbers that a slice holds, wherever it lies. -/
def SlA (w : World) (v : Value) (l : List Int) : Prop := (∃ a cap, v = .slice a 0 cap ∧ l = []) ∨ ∃ g off cap, v = .slice (some ⟨g, off, none⟩) l.length cap ∧ l.length ≤ 4611686018427387903 ∧ ∀ j (h : j < l.length), w.cell? ⟨g, off + j, none⟩ = some (.int .i64 l[j])
theorem SlA.form {w : World} {v : Value} {l : List Int} (h : SlA w v l) : ∃ a cap, v = .slice a l.length cap ∧ l.length ≤ 4611686018427387903 := by
  rcases h with ⟨a, cap, rfl, rfl⟩ | ⟨g, off, cap, rfl, h2, _⟩
  · exact ⟨a, cap, rfl, by simp⟩
  · exact ⟨_, cap, rfl, h2⟩
theorem SlA.at {w : World} {a : Option Addr} {cap : Nat} {l : List Int} (h : SlA w (.slice a l.length cap) l) (j : Nat) (hj : j < l.length) : ∃ g off, a = some ⟨g, off, none⟩ ∧ w.cell? ⟨g, off + j, none⟩ = some (.int .i64 l[j]) := by
  rcases h with ⟨a', cap', _, rfl⟩ | ⟨g, off, cap', e, _, hc⟩
  · simp at hj
  · simp only [Value.slice.injEq, true_and] at e
    exact ⟨g, off, e.1, hc j hj⟩
theorem SlA.blk {w : World} {v : Value} {l : List Int} (h : SlA w v l) (hl : 0 < l.length) : ∀ k, Go.Proofs.YtipdmmncgenppaaGreatDoor.blk v k → k < w.heap.size := by
  rcases h with ⟨a, cap, rfl, rfl⟩ | ⟨g, off, cap, rfl, _, hc⟩
  · simp at hl
  · intro k hk
    exact (show g = k from hk) ▸ World.block_lt_of_cell? w _ (hc 0 hl)
theorem SlA.turned {S : Nat → Prop} {w w' : World} {v : Value} {l : List Int} (h : SlA w v l) (T : Turned S w w') (hs : 0 < l.length → ∀ k, Go.Proofs.YtipdmmncgenppaaGreatDoor.blk v k → ¬ S k) : SlA w' v l := by
  rcases h with h | ⟨g, off, cap, rfl, h2, hc⟩
  · exact .inl h
  · exact .inr ⟨g, off, cap, rfl, h2, fun j hj => T.cell (hc j hj) (hs (by omega) g rfl)⟩
theorem SlI.any {w : World} {v : Value} {l : List Int} (h : SlI w v l) (hl : l.length ≤ 4611686018427387903) : SlA w v l := by
  obtain ⟨_, ⟨rfl, h0⟩ | ⟨g, off, cap, rfl, _, _, hc⟩⟩ := h
  · exact .inl ⟨none, 0, rfl, List.eq_nil_of_length_eq_zero h0⟩
  · exact .inr ⟨g, off, cap, rfl, hl, fun j hj => by rw [hc j (by rw [ints_length]; exact hj)]; simp [ints]⟩
set_option maxRecDepth 100000 in
theorem ps_isLower (k i : Int) (w : World) : Calls Tryz.prog 16 #[.int .i64 k, .int .i64 i] w fun e w' => e = .returned (.bool (lowB i k)) ∧ w = w' := by
  go_enter Tryz.func16, Tryz.ntmps16
  go_wp2
  all_goals go_ret
  all_goals
    refine ⟨congrArg Ending.returned (congrArg Value.bool ?_), rfl⟩
    rw [Bool.eq_iff_iff]
    simp [lowB]
    try omega
set_option maxRecDepth 100000 in
theorem ps_isNode (a : Option Addr) (n cap : Nat) (k : Int) (w : World) : Calls Tryz.prog 10 #[.slice a n cap, .int .i64 k] w fun e w' => e = .returned (.bool (lowB n k)) ∧ w = w' := by
  go_enter Tryz.func10, Tryz.ntmps10
  go_wp2
  all_goals go_ret
  all_goals
    refine ⟨congrArg Ending.returned (congrArg Value.bool ?_), rfl⟩
    rw [Bool.eq_iff_iff]
    simp [lowB]
    try omega
end Go.Proofs.YtipdmmncgenppaaGreatDoor
