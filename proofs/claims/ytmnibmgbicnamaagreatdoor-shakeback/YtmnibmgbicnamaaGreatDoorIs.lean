/-
  errors.Is at a fault of package api with nothing under it, and a number of type api.Errno for its target: true just where the fault's Code is that number; the world stays.
-/
import Derived.Test.YtmnibmgbicnamaaGreatDoorAs
namespace Go.Proofs.YtmnibmgbicnamaaGreatDoor
open Go.RowKit Go.Extern.Stop Go.Stop Go.Extern

theorem Tryz.isTypeOf (v : Value) (w : World) : (Extern.ReflectliteType.typeOf #[.iface 89 v]).run Tryz.prog w = .ok (.iface 168 (.agg #[.pointer (some ⟨5, 89, none⟩)])) w := by kernel_rfl
/-- The model's entry for (rtype).Comparable, under a name of our own, so that the walk does not open it. -/
def cmpEntry : Array Value → Sem Value := Extern.ReflectliteType.method fun t => do Extern.Rtype.noPackHeld "Comparable" t; pure (.bool (← typeInfo t).comparable)
theorem Tryz.isComparable (w : World) : (cmpEntry #[.agg #[.pointer (some ⟨5, 89, none⟩)]]).run Tryz.prog w = .ok (.bool true) w := by kernel_rfl
theorem Tryz.isMethodComparable (v : Value) (w : World) : (Go.method 351 168 v "Comparable").run Tryz.prog w = .ok (166, v) w := by kernel_rfl
theorem Tryz.isComp : (Tryz.prog.info? 89).map (·.comparable) = some true := by kernel_rfl
/-- '==' at type error, both sides of type api.Errno: as the numbers are. -/
theorem Tryz.eqlErrno (a b : Int) (w : World) : (binOp .eql 29 (.iface 89 (.int .i64 a)) (.iface 89 (.int .i64 b))).run Tryz.prog w = .ok (.bool (a == b)) w := by
  obtain ⟨i, hi, hcmp⟩ := Option.map_eq_some_iff.1 Tryz.isComp
  have h : ∀ d : Nat, (Op.equalIn (d + 2) 29 (.iface 89 (.int .i64 a)) (.iface 89 (.int .i64 b))).run Tryz.prog w = .ok (a == b) w := fun d => by
    simp [Op.equalIn, run_underlying Tryz.underlying29, run_underlying Tryz.underlying89, typeInfo, hi, hcmp]
  simp only [binOp]
  simp [Op.equal, Op.maxDepth, h 9998]
theorem Tryz.noIsF (v : Value) (xT : TypeId) (w : World) : (Instr.typeAssert (.iface 131 v) xT 170 true).run Tryz.prog w = .ok (.tuple #[.nilIface, .bool false]) w := run_typeAssert_lacksB Tryz.underlying170 (by kernel_rfl) (by kernel_rfl) v xT w
theorem Tryz.hasUnwrapF (v : Value) (xT : TypeId) (w : World) : (Instr.typeAssert (.iface 131 v) xT 173 true).run Tryz.prog w = .ok (.tuple #[.iface 131 v, .bool true]) w := run_typeAssert_hasB Tryz.underlying173 (by kernel_rfl) v xT w
theorem Tryz.methodUnwrap (v : Value) (w : World) : (Go.method 351 131 v "Unwrap").run Tryz.prog w = .ok (160, v) w := by kernel_rfl

set_option maxHeartbeats 4000000 in
theorem is_fault (pb po : Nat) (c : Int) (w : World) (h2 : w.cell? ⟨pb, po + 2, none⟩ = some (.int .i64 c)) (h3 : w.cell? ⟨pb, po + 3, none⟩ = some .nilIface) :
    Calls Tryz.prog 39 #[.iface 131 (.pointer (some ⟨pb, po, none⟩)), .iface 89 (.int .i64 c)] w fun e w' => e = .returned (.bool true) ∧ w' = w := by
  have hT := @run_callFunc_extern Tryz.prog 73 _ Extern.ReflectliteType.typeOf Tryz.func73 (by kernel_rfl) (by kernel_rfl) (by kernel_rfl) (by kernel_rfl)
  have hC := @run_callFunc_extern Tryz.prog 166 _ cmpEntry Tryz.func166 (by kernel_rfl) (by kernel_rfl) (by kernel_rfl) (by kernel_rfl)
  have tT := Tryz.isTypeOf
  have cT := Tryz.isComparable
  have mR := Tryz.isMethodComparable
  have nF := Tryz.noIsF
  have uF := Tryz.hasUnwrapF
  have mU := Tryz.methodUnwrap
  have heq := Tryz.eqlErrno c c
  have hty := run_eql_iface_types (P := Tryz.prog) 131 89 (.pointer (some ⟨pb, po, none⟩)) (.int .i64 c) Tryz.underlying29 (by decide) w
  go_enter Tryz.func39, Tryz.ntmps39
  go_wp2
  refine wp_loop_rounds 2 ?_
  rw [rounds_succ]
  go_wp2
  rw [rounds_succ]
  go_wp2
  go_ret
  exact ⟨rfl, rfl⟩
end Go.Proofs.YtmnibmgbicnamaaGreatDoor
