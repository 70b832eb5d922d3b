/-
  A reader that nobody made (nil, or one whose first cell is nil): each of its methods answers a fault of layer frame with the number ErrZero, or zero values, and touches nothing that was there.
-/
import Derived.Test.YtpbakejocjmkeaaDoorFrmImpl
namespace Go.Proofs.YtpbakejocjmkeaaDoor
open Go.RowKit

/-- Nobody made the reader. -/
def Nobody (w : World) (s : Value) : Prop := s = .pointer none ∨ ∃ b o, s = .pointer (some ⟨b, o, none⟩) ∧ w.cell? ⟨b, o, none⟩ = some (.pointer none)
theorem Nobody.below {w w' : World} {s : Value} (h : Nobody w s) (hb : Below w.heap.size w w') : Nobody w' s := by
  rcases h with h | ⟨b, p, hs, hc⟩
  · exact .inl h
  · exact .inr ⟨b, p, hs, by rw [hb.cell (p := ⟨b, p, none⟩) (World.block_lt_of_cell? w _ hc)]; exact hc⟩
theorem Nobody.alloc {w : World} {s : Value} (h : Nobody w s) (o : Obj) : Nobody (w.alloc o) s := h.below ((Below.refl _ _).alloc (Nat.le_refl _) o)

/-- '==' of nil and another pointer to a reader. -/
theorem Tryd.eqlNilReader (a : Addr) (w : World) : (binOp .eql 40 (.pointer none) (.pointer (some a))).run Tryd.prog w = .ok (.bool false) w := by
  have h : ∀ d : Nat, (Op.equalIn (d + 1) 40 (.pointer none) (.pointer (some a))).run Tryd.prog w = .ok false w := fun d => by simp [Op.equalIn, run_underlying Tryd.underlying40]
  simp only [binOp]
  simp [Op.equal, Op.maxDepth, h 9999]

theorem made_nobody (s : Value) (w : World) (h : Nobody w s) : Calls Tryd.prog 37 #[s] w fun e w' => e = .returned (.bool false) ∧ w = w' := by
  rcases h with rfl | ⟨b, o, rfl, h⟩
  · go_enter Tryd.func37, Tryd.ntmps37
    go_wp2
    go_ret
    exact ⟨rfl, rfl⟩
  · have he := Tryd.eqlNilReader
    go_enter Tryd.func37, Tryd.ntmps37
    go_wp2
    go_ret
    exact ⟨rfl, rfl⟩

theorem enter_nobody (s : Value) (w : World) (h : Nobody w s) : Calls Tryd.prog 33 #[s] w fun e w' => ∃ v, e = .returned v ∧ FaultAt w.heap.size w' v (0, 3) ∧ Below w.heap.size w w' := by
  go_enter Tryd.func33, Tryd.ntmps33
  go_wp2_with fail
  refine (made_nobody s _ h).mono ?_
  rintro e w' ⟨rfl, rfl⟩
  go_wp2_with fail
  refine (frm_refuse _ _ _).mono ?_
  rintro e w1 ⟨v, rfl, hf, hb⟩
  go_wp2
  go_ret
  exact ⟨v, rfl, hf, hb⟩

theorem feed_nobody (s x : Value) (w : World) (h : Nobody w s) : Calls Tryd.prog 16 #[s, x] w fun e w' => ∃ v, e = .returned v ∧ FaultAt w.heap.size w' v (0, 3) ∧ Below w.heap.size w w' := by
  go_enter Tryd.func16, Tryd.ntmps16
  go_wp2_with fail
  refine (enter_nobody s _ h).mono ?_
  rintro e w1 ⟨v, rfl, hf, hb⟩
  have hf' := hf
  obtain ⟨pb, _, rfl, _⟩ := hf
  go_wp2
  go_ret
  exact ⟨_, rfl, hf', hb⟩

theorem next_nobody (s : Value) (w : World) (h : Nobody w s) : Calls Tryd.prog 18 #[s] w fun e w' => ∃ v, e = .returned (.tuple #[.slice none 0 0, .bool false, v]) ∧ FaultAt w.heap.size w' v (0, 3) ∧ Below w.heap.size w w' := by
  go_enter Tryd.func18, Tryd.ntmps18
  go_wp2_with fail
  refine (enter_nobody s _ h).mono ?_
  rintro e w1 ⟨v, rfl, hf, hb⟩
  have hf' := hf
  obtain ⟨pb, _, rfl, _⟩ := hf
  go_wp2
  go_ret3
  exact ⟨_, rfl, hf', hb⟩

theorem widen_nobody (s : Value) (w : World) (h : Nobody w s) : Calls Tryd.prog 20 #[s] w fun e w' => ∃ v, e = .returned v ∧ FaultAt w.heap.size w' v (0, 3) ∧ Below w.heap.size w w' := by
  go_enter Tryd.func20, Tryd.ntmps20
  go_wp2_with fail
  refine (enter_nobody s _ h).mono ?_
  rintro e w1 ⟨v, rfl, hf, hb⟩
  have hf' := hf
  obtain ⟨pb, _, rfl, _⟩ := hf
  go_wp2
  go_ret
  exact ⟨_, rfl, hf', hb⟩

set_option maxRecDepth 100000 in
theorem state_nobody (s : Value) (w : World) (h : Nobody w s) : Calls Tryd.prog 22 #[s] w fun e w' => e = .returned (.agg #[.int .i64 0, .int .i64 0, .int .i64 0, .int .i64 0, .int .i64 0, .bool false]) ∧ Below w.heap.size w w' := by
  go_enter Tryd.func22, Tryd.ntmps22
  go_wp2_with fail
  refine (made_nobody s _ (h.alloc _)).mono ?_
  rintro e w' ⟨rfl, rfl⟩
  clear h
  go_wp2
  exact bodyPost_ret (v := .agg #[.int .i64 0, .int .i64 0, .int .i64 0, .int .i64 0, .int .i64 0, .bool false]) (by simp [results, Tryd.results22, go_sem]) rfl ⟨rfl, (Below.refl _ _).alloc (Nat.le_refl _) _⟩
end Go.Proofs.YtpbakejocjmkeaaDoor
