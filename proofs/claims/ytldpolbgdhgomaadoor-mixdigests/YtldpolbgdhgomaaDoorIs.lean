/-
  errors.Is at a fault of package api with nothing under it, and a number of type api.Errno for its target: true just where the fault's Code is that number; the world stays.
-/
import Derived.Test.YtldpolbgdhgomaaDoorAs
namespace Go.Proofs.YtldpolbgdhgomaaDoor
open Go.RowKit Go.Extern.Stop Go.Stop Go.Extern

theorem Tryd.isTypeOf (v : Value) (w : World) : (Extern.ReflectliteType.typeOf #[.iface 56 v]).run Tryd.prog w = .ok (.iface 92 (.agg #[.pointer (some ⟨4, 56, none⟩)])) w := by kernel_rfl
/-- The model's entry for (rtype).Comparable, under a name of our own, so that the walk does not open it. -/
def cmpEntry : Array Value → Sem Value := Extern.ReflectliteType.method fun t => do Extern.Rtype.noPackHeld "Comparable" t; pure (.bool (← typeInfo t).comparable)
theorem Tryd.isComparable (w : World) : (cmpEntry #[.agg #[.pointer (some ⟨4, 56, none⟩)]]).run Tryd.prog w = .ok (.bool true) w := by kernel_rfl
theorem Tryd.isMethodComparable (v : Value) (w : World) : (Go.method 249 92 v "Comparable").run Tryd.prog w = .ok (80, v) w := by kernel_rfl
theorem Tryd.isComp : (Tryd.prog.info? 56).map (·.comparable) = some true := by kernel_rfl
/-- '==' at type error, both sides of type api.Errno: as the numbers are. -/
theorem Tryd.eqlErrno (a b : Int) (w : World) : (binOp .eql 24 (.iface 56 (.int .i64 a)) (.iface 56 (.int .i64 b))).run Tryd.prog w = .ok (.bool (a == b)) w := by
  obtain ⟨i, hi, hcmp⟩ := Option.map_eq_some_iff.1 Tryd.isComp
  have h : ∀ d : Nat, (Op.equalIn (d + 2) 24 (.iface 56 (.int .i64 a)) (.iface 56 (.int .i64 b))).run Tryd.prog w = .ok (a == b) w := fun d => by
    simp [Op.equalIn, run_underlying Tryd.underlying24, run_underlying Tryd.underlying56, typeInfo, hi, hcmp]
  simp only [binOp]
  simp [Op.equal, Op.maxDepth, h 9998]
theorem Tryd.noIsF (v : Value) (xT : TypeId) (w : World) : (Instr.typeAssert (.iface 72 v) xT 94 true).run Tryd.prog w = .ok (.tuple #[.nilIface, .bool false]) w := run_typeAssert_lacksB Tryd.underlying94 (by kernel_rfl) (by kernel_rfl) v xT w
theorem Tryd.hasUnwrapF (v : Value) (xT : TypeId) (w : World) : (Instr.typeAssert (.iface 72 v) xT 97 true).run Tryd.prog w = .ok (.tuple #[.iface 72 v, .bool true]) w := run_typeAssert_hasB Tryd.underlying97 (by kernel_rfl) v xT w
theorem Tryd.methodUnwrap (v : Value) (w : World) : (Go.method 249 72 v "Unwrap").run Tryd.prog w = .ok (74, v) w := by kernel_rfl

set_option maxHeartbeats 4000000 in
theorem is_fault (pb po : Nat) (c : Int) (w : World) (h2 : w.cell? ⟨pb, po + 2, none⟩ = some (.int .i64 c)) (h3 : w.cell? ⟨pb, po + 3, none⟩ = some .nilIface) :
    Calls Tryd.prog 22 #[.iface 72 (.pointer (some ⟨pb, po, none⟩)), .iface 56 (.int .i64 c)] w fun e w' => e = .returned (.bool true) ∧ w' = w := by
  have hT := @run_callFunc_extern Tryd.prog 35 _ Extern.ReflectliteType.typeOf Tryd.func35 (by kernel_rfl) (by kernel_rfl) (by kernel_rfl) (by kernel_rfl)
  have hC := @run_callFunc_extern Tryd.prog 80 _ cmpEntry Tryd.func80 (by kernel_rfl) (by kernel_rfl) (by kernel_rfl) (by kernel_rfl)
  have tT := Tryd.isTypeOf
  have cT := Tryd.isComparable
  have mR := Tryd.isMethodComparable
  have nF := Tryd.noIsF
  have uF := Tryd.hasUnwrapF
  have mU := Tryd.methodUnwrap
  have heq := Tryd.eqlErrno c c
  have hty := run_eql_iface_types (P := Tryd.prog) 72 56 (.pointer (some ⟨pb, po, none⟩)) (.int .i64 c) Tryd.underlying24 (by decide) w
  go_enter Tryd.func22, Tryd.ntmps22
  go_wp2
  refine wp_loop_rounds 2 ?_
  rw [rounds_succ]
  go_wp2
  rw [rounds_succ]
  go_wp2
  go_ret
  exact ⟨rfl, rfl⟩
end Go.Proofs.YtldpolbgdhgomaaDoor
