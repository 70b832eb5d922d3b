/-
  A stream that nobody made (nil, or one whose first cell is nil): each of the seven methods answers a fault of layer stream with the number ErrZero, and touches nothing that was there.
-/
import Derived.Test.YtjkmklbkemoldabDoorStrmState
namespace Go.Proofs.YtjkmklbkemoldabDoor
open Go.RowKit Go.Extern.Stop Go.Stop Go.Extern

/-- Nobody made the stream. -/
def Nobody (w : World) (s : Value) : Prop := s = .pointer none ∨ ∃ b o, s = .pointer (some ⟨b, o, none⟩) ∧ w.cell? ⟨b, o, none⟩ = some (.pointer none)

/-- '==' of nil and another pointer to a stream. -/
theorem Tryd.eqlNilPtr (a : Addr) (w : World) : (binOp .eql 25 (.pointer none) (.pointer (some a))).run Tryd.prog w = .ok (.bool false) w := by
  have h : ∀ d : Nat, (Op.equalIn (d + 1) 25 (.pointer none) (.pointer (some a))).run Tryd.prog w = .ok false w := fun d => by simp [Op.equalIn, run_underlying Tryd.underlying25]
  simp only [binOp]
  simp [Op.equal, Op.maxDepth, h 9999]

theorem made_nobody (s : Value) (w : World) (h : Nobody w s) : Calls Tryd.prog 35 #[s] w fun e w' => e = .returned (.bool false) ∧ w = w' := by
  rcases h with rfl | ⟨b, o, rfl, h⟩
  · go_enter Tryd.func35, Tryd.ntmps35
    go_wp2
    go_ret
    exact ⟨rfl, rfl⟩
  · have he := Tryd.eqlNilPtr
    go_enter Tryd.func35, Tryd.ntmps35
    go_wp2
    go_ret
    exact ⟨rfl, rfl⟩

theorem enter_nobody (s : Value) (n : Int) (w : World) (h : Nobody w s) : Calls Tryd.prog 26 #[s, .int .i64 n] w fun e w' => ∃ v, e = .returned v ∧ FaultOf w.heap.size w' v 3 ∧ Below w.heap.size w w' := by
  go_enter Tryd.func26, Tryd.ntmps26
  go_wp2_with fail
  refine (made_nobody s _ h).mono ?_
  rintro e w' ⟨rfl, rfl⟩
  go_wp2_with fail
  refine (refuse_any _ _).mono ?_
  rintro e w1 ⟨v, rfl, hf, hb⟩
  go_wp2
  go_ret
  exact ⟨v, rfl, hf, hb⟩

theorem change_nobody (s : Value) (n : Int) (work : Value) (w : World) (h : Nobody w s) : Calls Tryd.prog 22 #[s, .int .i64 n, work] w fun e w' => ∃ v, e = .returned v ∧ FaultOf w.heap.size w' v 3 ∧ Below w.heap.size w w' := by
  go_enter Tryd.func22, Tryd.ntmps22
  go_wp2_with fail
  refine (enter_nobody s n _ h).mono ?_
  rintro e w1 ⟨v, rfl, hf, hb⟩
  have hf' := hf
  obtain ⟨pb, _, rfl, _⟩ := hf
  go_wp2
  go_ret
  exact ⟨_, rfl, hf', hb⟩

set_option maxRecDepth 100000 in
theorem look_nobody (s : Value) (n : Int) (w : World) (h : Nobody w s) : Calls Tryd.prog 14 #[s, .int .i64 n] w fun e w' => ∃ v, e = .returned (.tuple #[.pointer none, .bool false, v]) ∧ FaultOf w.heap.size w' v 3 ∧ Below w.heap.size w w' := by
  go_enter Tryd.func14, Tryd.ntmps14
  go_wp2_with fail
  refine (enter_nobody s n _ h).mono ?_
  rintro e w1 ⟨v, rfl, hf, hb⟩
  have hf' := hf
  obtain ⟨pb, _, rfl, f0, f1, f2, f3⟩ := hf
  have his := is_other pb 0 3 100 (by decide) w1 f2 f3
  have HF : Hid (FaultOf w.heap.size w1 (.iface 71 (.pointer (some ⟨pb, 0, none⟩))) 3) := hf'
  clear hf' f0 f1 f2 f3
  go_wp2_with (go_at_call 21; refine his.mono ?_; rintro e w' ⟨rfl, rfl⟩)
  go_ret3
  exact ⟨_, rfl, HF.out, hb⟩

theorem Nobody.alloc {w : World} {s : Value} (h : Nobody w s) (o : Obj) : Nobody (w.alloc o) s := by
  rcases h with h | ⟨b, p, hs, hc⟩
  · exact .inl h
  · exact .inr ⟨b, p, hs, by rw [World.cell?_alloc_lt _ _ ⟨b, p, none⟩ (World.block_lt_of_cell? w _ hc)]; exact hc⟩
theorem Nobody.below {w w' : World} {s : Value} (h : Nobody w s) (hb : Below w.heap.size w w') : Nobody w' s := by
  rcases h with h | ⟨b, p, hs, hc⟩
  · exact .inl h
  · exact .inr ⟨b, p, hs, by rw [hb.cell (p := ⟨b, p, none⟩) (World.block_lt_of_cell? w _ hc)]; exact hc⟩

set_option maxRecDepth 100000 in
theorem send_nobody (s : Value) (n : Int) (x : Value) (w : World) (h : Nobody w s) : Calls Tryd.prog 8 #[s, .int .i64 n, x] w fun e w' => ∃ v, e = .returned v ∧ FaultOf w.heap.size w' v 3 ∧ Below w.heap.size w w' := by
  have hmf : ∀ (fn : Fn) (first cap : Array Value) (w : World), (Instr.makeFunc fn first cap).run Tryd.prog w = .ok (.func fn first cap) w := fun _ _ _ _ => rfl
  go_enter Tryd.func8, Tryd.ntmps8
  go_wp2_with fail
  refine (change_nobody s n _ _ h).mono ?_
  rintro e w1 ⟨v, rfl, hf, hb⟩
  go_wp2
  go_ret
  exact ⟨v, rfl, hf, hb⟩

set_option maxRecDepth 100000 in
theorem move_nobody (s : Value) (n m : Int) (w : World) (h : Nobody w s) : Calls Tryd.prog 9 #[s, .int .i64 n, .int .i64 m] w fun e w' => ∃ v, e = .returned v ∧ FaultOf w.heap.size w' v 3 ∧ Below w.heap.size w w' := by
  have hmf : ∀ (fn : Fn) (first cap : Array Value) (w : World), (Instr.makeFunc fn first cap).run Tryd.prog w = .ok (.func fn first cap) w := fun _ _ _ _ => rfl
  go_enter Tryd.func9, Tryd.ntmps9
  go_wp2_with fail
  refine (change_nobody s n _ _ h).mono ?_
  rintro e w1 ⟨v, rfl, hf, hb⟩
  go_wp2
  go_ret
  exact ⟨v, rfl, hf, hb⟩

set_option maxRecDepth 100000 in
theorem stall_nobody (s : Value) (n : Int) (y : Bool) (w : World) (h : Nobody w s) : Calls Tryd.prog 10 #[s, .int .i64 n, .bool y] w fun e w' => ∃ v, e = .returned v ∧ FaultOf w.heap.size w' v 3 ∧ Below w.heap.size w w' := by
  have hmf : ∀ (fn : Fn) (first cap : Array Value) (w : World), (Instr.makeFunc fn first cap).run Tryd.prog w = .ok (.func fn first cap) w := fun _ _ _ _ => rfl
  go_enter Tryd.func10, Tryd.ntmps10
  go_wp2_with fail
  refine (change_nobody s n _ _ h).mono ?_
  rintro e w1 ⟨v, rfl, hf, hb⟩
  go_wp2
  go_ret
  exact ⟨v, rfl, hf, hb⟩

set_option maxRecDepth 100000 in
theorem close_nobody (s : Value) (n : Int) (w : World) (h : Nobody w s) : Calls Tryd.prog 12 #[s, .int .i64 n] w fun e w' => ∃ v, e = .returned v ∧ FaultOf w.heap.size w' v 3 ∧ Below w.heap.size w w' := by
  have hmf : ∀ (fn : Fn) (first cap : Array Value) (w : World), (Instr.makeFunc fn first cap).run Tryd.prog w = .ok (.func fn first cap) w := fun _ _ _ _ => rfl
  go_enter Tryd.func12, Tryd.ntmps12
  go_wp2_with fail
  refine (change_nobody s n _ _ h).mono ?_
  rintro e w1 ⟨v, rfl, hf, hb⟩
  go_wp2
  go_ret
  exact ⟨v, rfl, hf, hb⟩

theorem break_nobody (s : Value) (w : World) (h : Nobody w s) : Calls Tryd.prog 11 #[s] w fun e w' => ∃ v, e = .returned v ∧ FaultOf w.heap.size w' v 3 ∧ Below w.heap.size w w' := by
  go_enter Tryd.func11, Tryd.ntmps11
  go_wp2_with fail
  refine (enter_nobody s 0 _ h).mono ?_
  rintro e w1 ⟨v, rfl, hf, hb⟩
  have hf' := hf
  obtain ⟨pb, _, rfl, _⟩ := hf
  go_wp2
  go_ret
  exact ⟨_, rfl, hf', hb⟩

set_option maxRecDepth 100000 in
theorem read_nobody (s : Value) (n m : Int) (w : World) (h : Nobody w s) : Calls Tryd.prog 5 #[s, .int .i64 n, .int .i64 m] w fun e w' => ∃ v, e = .returned (.tuple #[.slice none 0 0, v]) ∧ FaultOf w.heap.size w' v 3 ∧ Below w.heap.size w w' := by
  go_enter Tryd.func5, Tryd.ntmps5
  go_wp2_with fail
  refine (look_nobody s n _ h).mono ?_
  rintro e w1 ⟨v, rfl, hf, hb⟩
  have hf' := hf
  obtain ⟨pb, _, rfl, _⟩ := hf
  go_wp2
  go_ret2
  exact ⟨_, rfl, hf', hb⟩

set_option maxRecDepth 100000 in
theorem state_nobody (s : Value) (n : Int) (w : World) (h : Nobody w s) : Calls Tryd.prog 6 #[s, .int .i64 n] w fun e w' => ∃ v, e = .returned (.tuple #[.agg #[.int .i64 0, .int .i64 0, .int .i64 0, .int .i64 0, .int .i64 0, .bool false, .bool false], v]) ∧ FaultOf w.heap.size w' v 3 ∧ Below w.heap.size w w' := by
  go_enter Tryd.func6, Tryd.ntmps6
  go_wp2_with fail
  refine (look_nobody s n _ (h.alloc _)).mono ?_
  rintro e w1 ⟨v, rfl, hf, hb⟩
  have hf' := hf
  obtain ⟨pb, hpb, rfl, hr⟩ := hf
  obtain ⟨hc, hfz⟩ := belowCells hb
  have hz := hb.size
  simp at hz
  simp at hpb
  have HB : Hid (Below (w.heap.size + 1) (w.alloc (.cells #[.int .i64 0, .int .i64 0, .int .i64 0, .int .i64 0, .int .i64 0, .bool false, .bool false] 42)) w1) := by unfold Hid; simpa using hb
  obtain ⟨f0, f1, f2, f3⟩ := hr
  have hne : ∀ i j : Nat, (⟨w.heap.size, i, none⟩ : Addr) ≠ ⟨pb, j, none⟩ := fun i j he => by have := congrArg Addr.block he; simp at this; omega
  clear hb hf' h
  go_wp2
  refine bodyPost_ret (v := .tuple #[.agg #[.int .i64 0, .int .i64 0, .int .i64 0, .int .i64 0, .int .i64 0, .bool false, .bool false], .iface 71 (.pointer (some ⟨pb, 0, none⟩))]) (by simp [results, Tryd.results6, go_sem, hc]) rfl ⟨_, rfl, ⟨pb, by omega, rfl, ?_, ?_, ?_, ?_⟩, ?_⟩
  · simp only [World.cell?_setCell_other _ _ _ _ (hne _ _)]; exact f0
  · simp only [World.cell?_setCell_other _ _ _ _ (hne _ _)]; exact f1
  · simp only [World.cell?_setCell_other _ _ _ _ (hne _ _)]; exact f2
  · simp only [World.cell?_setCell_other _ _ _ _ (hne _ _)]; exact f3
  · have hbase : Below w.heap.size w w1 := ((Below.refl _ _).alloc (Nat.le_refl _) _).trans (HB.out.mono (by omega))
    exact (((((((hbase.setCell (p := ⟨w.heap.size, 0, none⟩) (Nat.le_refl _) _).setCell (p := ⟨w.heap.size, 1, none⟩) (Nat.le_refl _) _).setCell (p := ⟨w.heap.size, 2, none⟩) (Nat.le_refl _) _).setCell (p := ⟨w.heap.size, 3, none⟩) (Nat.le_refl _) _).setCell (p := ⟨w.heap.size, 4, none⟩) (Nat.le_refl _) _).setCell (p := ⟨w.heap.size, 5, none⟩) (Nat.le_refl _) _).setCell (p := ⟨w.heap.size, 6, none⟩) (Nat.le_refl _) _)
end Go.Proofs.YtjkmklbkemoldabDoor
