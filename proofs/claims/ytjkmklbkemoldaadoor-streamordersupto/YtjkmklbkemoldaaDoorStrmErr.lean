/-
  The program's stream: its faults; whether it was made; enter; errors.Is of what enter tells.
-/
import Derived.Test.YtjkmklbkemoldaaDoorStrm
import Derived.Test.YtjkmklbkemoldaaDoorImpl
namespace Go.Proofs.YtjkmklbkemoldaaDoor
open Go.RowKit Go.Extern.Stop Go.Stop Go.Extern

theorem refuse_any (c : Int) (w : World) : Calls Tryd.prog 35 #[.int .i64 c] w fun e w' => ∃ v, e = .returned v ∧ FaultOf w.heap.size w' v c ∧ Below w.heap.size w w' := by
  go_enter Tryd.func35, Tryd.ntmps35
  go_wp2
  go_ret
  exact ⟨_, rfl, ⟨_, Nat.le_refl _, rfl, by simp, by simp, by simp, by simp⟩, (Below.refl _ _).alloc (Nat.le_refl _) _⟩

/-- '==' of a pointer to a stream and itself. -/
theorem Tryd.eqlSelf (sb : Nat) (w : World) : (binOp .eql 23 (.pointer (some ⟨sb, 0, none⟩)) (.pointer (some ⟨sb, 0, none⟩))).run Tryd.prog w = .ok (.bool true) w := by
  have h : ∀ d : Nat, (Op.equalIn (d + 1) 23 (.pointer (some ⟨sb, 0, none⟩)) (.pointer (some ⟨sb, 0, none⟩))).run Tryd.prog w = .ok true w := fun d => by simp [Op.equalIn, run_underlying Tryd.underlying23, sameAddr]
  simp only [binOp]
  simp [Op.equal, Op.maxDepth, h 9999]

theorem made_yes {w : World} {sb : Nat} (h : w.cell? ⟨sb, 0, none⟩ = some (.pointer (some ⟨sb, 0, none⟩))) : Calls Tryd.prog 50 #[.pointer (some ⟨sb, 0, none⟩)] w fun e w' => e = .returned (.bool true) ∧ w = w' := by
  have he := Tryd.eqlSelf
  go_enter Tryd.func50, Tryd.ntmps50
  go_wp2
  go_ret
  exact ⟨rfl, rfl⟩

section
variable {w : World} {sb : Nat} {f : Nat → Value} {x y : SideV} {s o : Side} {sh : Bool}

set_option maxRecDepth 100000 in
theorem enter_bad (E : Ends w sb f 1 8 x y s o sh) (n : Int) (h0 : (n == 0) = false) (h1 : (n == 1) = false) : Calls Tryd.prog 39 #[.pointer (some ⟨sb, 0, none⟩), .int .i64 n] w fun e w' => ∃ v, e = .returned v ∧ FaultOf w.heap.size w' v 2 ∧ Below w.heap.size w w' := by
  have k0 := (E.cells 0 (by omega)).1
  rw [E.self] at k0
  clear E
  have n0 : (n != 0) = true := by simpa using h0
  have n1 : (n != 1) = true := by simpa using h1
  go_enter Tryd.func39, Tryd.ntmps39
  go_wp2_with (first | (go_at_call 50; refine (made_yes k0).mono ?_; rintro e w' ⟨rfl, rfl⟩) | (go_at_call 35; refine (refuse_any _ _).mono ?_; rintro e w1 ⟨v, rfl, hf, hb⟩))
  go_ret
  exact ⟨v, rfl, hf, hb⟩

set_option maxRecDepth 100000 in
theorem enter_shut (E : Ends w sb f 1 8 x y s o true) (n : Int) (hn : n = 0 ∨ n = 1) : Calls Tryd.prog 39 #[.pointer (some ⟨sb, 0, none⟩), .int .i64 n] w fun e w' => ∃ v, e = .returned v ∧ FaultOf w.heap.size w' v 100 ∧ Below w.heap.size w w' := by
  have k0 := (E.cells 0 (by omega)).1
  rw [E.self] at k0
  have k1 := (E.cells 15 (by omega)).1
  rw [E.shut] at k1
  clear E
  rcases hn with rfl | rfl
  all_goals
    go_enter Tryd.func39, Tryd.ntmps39
    go_wp2_with (first | (go_at_call 50; refine (made_yes k0).mono ?_; rintro e w' ⟨rfl, rfl⟩) | (go_at_call 35; refine (refuse_any _ _).mono ?_; rintro e w1 ⟨v, rfl, hf, hb⟩))
    go_ret
    exact ⟨v, rfl, hf, hb⟩

set_option maxRecDepth 100000 in
theorem enter_ok (E : Ends w sb f 1 8 x y s o false) (n : Int) (hn : n = 0 ∨ n = 1) : Calls Tryd.prog 39 #[.pointer (some ⟨sb, 0, none⟩), .int .i64 n] w fun e w' => e = .returned .nilIface ∧ w = w' := by
  have k0 := (E.cells 0 (by omega)).1
  rw [E.self] at k0
  have k1 := (E.cells 15 (by omega)).1
  rw [E.shut] at k1
  clear E
  rcases hn with rfl | rfl
  all_goals
    go_enter Tryd.func39, Tryd.ntmps39
    go_wp2_with (first | (go_at_call 50; refine (made_yes k0).mono ?_; rintro e w' ⟨rfl, rfl⟩))
    go_ret
    exact ⟨rfl, rfl⟩
end

theorem Tryd.eqlNilE (v : Value) (w : World) : (binOp .eql 36 .nilIface (.iface 53 v)).run Tryd.prog w = .ok (.bool false) w := by
  have h : ∀ d : Nat, (Op.equalIn (d + 1) 36 .nilIface (.iface 53 v)).run Tryd.prog w = .ok false w := fun d => by simp [Op.equalIn, run_underlying Tryd.underlying36]
  simp only [binOp]
  simp [Op.equal, Op.maxDepth, h 9999]

set_option maxRecDepth 100000 in
theorem is_nil (d : Int) (w : World) : Calls Tryd.prog 44 #[.nilIface, .iface 53 (.int .i64 d)] w fun e w' => e = .returned (.bool false) ∧ w = w' := by
  have he := Tryd.eqlNilE
  go_enter Tryd.func44, Tryd.ntmps44
  go_wp2
  go_ret
  exact ⟨rfl, rfl⟩

theorem Tryd.noIsE (v : Value) (xT : TypeId) (w : World) : (Instr.typeAssert (.iface 53 v) xT 121 true).run Tryd.prog w = .ok (.tuple #[.nilIface, .bool false]) w := run_typeAssert_lacksB Tryd.underlying121 (by kernel_rfl) (by kernel_rfl) v xT w
theorem Tryd.noUnwrapE (v : Value) (xT : TypeId) (w : World) : (Instr.typeAssert (.iface 53 v) xT 124 true).run Tryd.prog w = .ok (.tuple #[.nilIface, .bool false]) w := run_typeAssert_lacksB Tryd.underlying124 (by kernel_rfl) (by kernel_rfl) v xT w
theorem Tryd.noUnwrapsE (v : Value) (xT : TypeId) (w : World) : (Instr.typeAssert (.iface 53 v) xT 125 true).run Tryd.prog w = .ok (.tuple #[.nilIface, .bool false]) w := run_typeAssert_lacksB Tryd.underlying125 (by kernel_rfl) (by kernel_rfl) v xT w

set_option maxHeartbeats 4000000 in
/-- errors.Is at a fault with nothing under it, and another number than its own. -/
theorem is_other (pb po : Nat) (c d : Int) (hcd : (c == d) = false) (w : World) (h2 : w.cell? ⟨pb, po + 2, none⟩ = some (.int .i64 c)) (h3 : w.cell? ⟨pb, po + 3, none⟩ = some .nilIface) :
    Calls Tryd.prog 44 #[.iface 98 (.pointer (some ⟨pb, po, none⟩)), .iface 53 (.int .i64 d)] w fun e w' => e = .returned (.bool false) ∧ w = w' := by
  have hT := @run_callFunc_extern Tryd.prog 52 _ Extern.ReflectliteType.typeOf Tryd.func52 (by kernel_rfl) (by kernel_rfl) (by kernel_rfl) (by kernel_rfl)
  have hC := @run_callFunc_extern Tryd.prog 85 _ cmpEntry Tryd.func85 (by kernel_rfl) (by kernel_rfl) (by kernel_rfl) (by kernel_rfl)
  have tT := Tryd.isTypeOf
  have cT := Tryd.isComparable
  have mR := Tryd.isMethodComparable
  have nF := Tryd.noIsF
  have uF := Tryd.hasUnwrapF
  have mU := Tryd.methodUnwrap
  have nE := Tryd.noIsE
  have uE := Tryd.noUnwrapE
  have vE := Tryd.noUnwrapsE
  have heq := Tryd.eqlErrno c d
  have hty := run_eql_iface_types (P := Tryd.prog) 98 53 (.pointer (some ⟨pb, po, none⟩)) (.int .i64 d) Tryd.underlying36 (by decide) w
  go_enter Tryd.func44, Tryd.ntmps44
  go_wp2
  refine wp_loop_rounds 2 ?_
  rw [rounds_succ]
  go_wp2
  rw [rounds_succ]
  go_wp2
  go_ret
  exact ⟨rfl, rfl⟩
end Go.Proofs.YtjkmklbkemoldaaDoor
