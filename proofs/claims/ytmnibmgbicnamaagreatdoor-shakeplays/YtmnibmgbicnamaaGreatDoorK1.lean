/-
  errors.As at a fault of package api (its contracts after the guide's worked example, whose numbers are turned to this program).
  errors.Is at a fault of package api with nothing under it, and a number of type api.Errno for its target: true just where the fault's Code is that number; the world stays.
  errors.As at a fault of package api, in the words that its callers use; heddlemem.Chain of a fault with nothing under it: one link, with that fault's layer, place and number.
  heddlemem.Refused: true where there is no link and no error, and where the one link tells the fault's layer, place and number.
  heddlemem.Chain, errors.Is and heddlemem.Refused of a fault with a fault under it, which has nothing under it.
  Slices of bytes in memory: what one reads as (Sl), that one may be appended to in place (Own), which blocks a step has turned (Turned); append of two such slices, for every program.
-/
import Derived.Test.YtmnibmgbicnamaaGreatDoorProg
import Derived.WalkKit
import Derived.LaidEql
import Derived.Stop.Asserts
import Derived.RowKitTokens
import Derived.WalkSpells
import Derived.OwnWalk
import Derived.Deep.RegionHeld3
import Derived.Deep.AppendLies
import Derived.Deep.DrawnRows
import Derived.Deep.QuietTactic
import Derived.BigQuiet
import Derived.WalkSmall
import Derived.Below
import Derived.Laws.AppendOwn
import Derived.Laws.IdiomCopy
import Derived.Deep.AppendSrc
import Derived.RegionTactic
namespace Go.Proofs.YtmnibmgbicnamaaGreatDoor
open Go.RowKit Go.Extern.Stop Go.Stop Go.Extern

theorem as_nil (t : Value) (w : World) :
    Calls Tryz.prog 72 #[.nilIface, t] w fun e w' => e = .returned (.bool false) ∧ w' = w := by
  go_enter Tryz.func72, Tryz.ntmps72
  go_wp2
  go_ret
  exact ⟨rfl, rfl⟩

theorem Tryz.valueOf27 (t : Addr) (w : World) : (ReflectliteValue.unpack (.iface 142 (.pointer (some t)))).run Tryz.prog w
    = .ok (.agg #[.pointer (some ⟨5, 142, none⟩), .pointer (some ⟨w.heap.size, 0, none⟩), .int .u64 150]) (w.alloc (.cells #[.pointer (some t)] 142)) := by kernel_rfl
theorem Tryz.type27 (a : Addr) (w : World) : (ReflectliteValue.methodAny (ReflectliteValue.valueError "reflectlite.Value.Type" 0) (fun t _ _ _ => ReflectliteType.toType t) #[.agg #[.pointer (some ⟨5, 142, none⟩), .pointer (some a), .int .u64 150]]).run Tryz.prog w
    = .ok (.iface 168 (.agg #[.pointer (some ⟨5, 142, none⟩)])) w := by kernel_rfl
theorem Tryz.methodKind (h : Value) (w : World) : (Go.method 351 168 (.agg #[h]) "Kind").run Tryz.prog w = .ok (155, h) w := by kernel_rfl
theorem Tryz.kind27 (w : World) : ((ReflectliteType.abiMethod fun t => (fun a : Nat => Value.int IntKind.u8 (a : Int)) <$> Rtype.kind t) #[.pointer (some ⟨5, 142, none⟩)]).run Tryz.prog w = .ok (.int .u8 22) w := by kernel_rfl
theorem Tryz.kind25 (w : World) : ((ReflectliteType.abiMethod fun t => (fun a : Nat => Value.int IntKind.u8 (a : Int)) <$> Rtype.kind t) #[.pointer (some ⟨5, 131, none⟩)]).run Tryz.prog w = .ok (.int .u8 22) w := by kernel_rfl

theorem rlm (z : Sem Value) (f : TypeId → Addr → Nat → Nat → Sem Value) (v : Value) :
    ReflectliteValue.method z f #[v] = (do match ← ReflectliteValue.parts v with | none => z | some (t, a, fl) => f t a fl (fl % 32)) := rfl
theorem Tryz.parts27 (a : Addr) (w : World) : (ReflectliteValue.parts (.agg #[.pointer (some ⟨5, 142, none⟩), .pointer (some a), .int .u64 150])).run Tryz.prog w = .ok (some (142, a, 150)) w := by kernel_rfl
theorem Tryz.isNil27 (a p : Addr) (W : World) (ha : W.cell? a = some (.pointer (some p))) :
    (ReflectliteValue.method (ReflectliteValue.valueError "reflectlite.Value.IsNil" 0) ReflectliteValue.isNil #[.agg #[.pointer (some ⟨5, 142, none⟩), .pointer (some a), .int .u64 150]]).run Tryz.prog W = .ok (.bool false) W := by
  rw [rlm]
  simp only [Sem.run_bind, Tryz.parts27, Result.andThen]
  simp [ReflectliteValue.isNil, loadVar, isAgg, underlying, Tryz.underlying142, ha, Result.andThen]

theorem Tryz.methodElem (h : Value) (w : World) : (Go.method 351 168 (.agg #[h]) "Elem").run Tryz.prog w = .ok (167, .agg #[h]) w := by kernel_rfl
theorem Tryz.methodImplements (h : Value) (w : World) : (Go.method 351 168 (.agg #[h]) "Implements").run Tryz.prog w = .ok (168, .agg #[h]) w := by kernel_rfl
theorem Tryz.methodAssignableTo (h : Value) (w : World) : (Go.method 351 168 (.agg #[h]) "AssignableTo").run Tryz.prog w = .ok (165, .agg #[h]) w := by kernel_rfl
theorem Tryz.elem27 (w : World) : (ReflectliteType.method ReflectliteType.elem #[.agg #[.pointer (some ⟨5, 142, none⟩)]]).run Tryz.prog w = .ok (.iface 168 (.agg #[.pointer (some ⟨5, 131, none⟩)])) w := by kernel_rfl
theorem Tryz.implements25 (w : World) : (ReflectliteType.relation "Implements" ReflectliteType.implements_ #[.agg #[.pointer (some ⟨5, 131, none⟩)], .iface 168 (.agg #[.pointer (some ⟨5, 29, none⟩)])]).run Tryz.prog w = .ok (.bool true) w := by kernel_rfl
theorem Tryz.typeOf25 (v : Value) (w : World) : (ReflectliteType.typeOf #[.iface 131 v]).run Tryz.prog w = .ok (.iface 168 (.agg #[.pointer (some ⟨5, 131, none⟩)])) w := by kernel_rfl
theorem Tryz.assignable25 (w : World) : (ReflectliteType.relation "AssignableTo" ReflectliteType.assignableTo #[.agg #[.pointer (some ⟨5, 131, none⟩)], .iface 168 (.agg #[.pointer (some ⟨5, 131, none⟩)])]).run Tryz.prog w = .ok (.bool true) w := by kernel_rfl
theorem Tryz.valueOf25 (e : Addr) (w : World) : (ReflectliteValue.unpack (.iface 131 (.pointer (some e)))).run Tryz.prog w
    = .ok (.agg #[.pointer (some ⟨5, 131, none⟩), .pointer (some ⟨w.heap.size, 0, none⟩), .int .u64 150]) (w.alloc (.cells #[.pointer (some e)] 131)) := by kernel_rfl

theorem Tryz.elemOf27 (w : World) : (Rtype.elem? 142).run Tryz.prog w = .ok (some 131) w := by kernel_rfl
theorem Tryz.mk25 (p : Addr) (w : World) : (ReflectliteValue.mk 131 p ReflectliteValue.flagAddr).run Tryz.prog w = .ok (.agg #[.pointer (some ⟨5, 131, none⟩), .pointer (some p), .int .u64 406]) w := by kernel_rfl
theorem Tryz.elemV27 (a p : Addr) (W : World) (ha : W.cell? a = some (.pointer (some p))) :
    (ReflectliteValue.method (ReflectliteValue.valueError "reflectlite.Value.Elem" 0) ReflectliteValue.elem #[.agg #[.pointer (some ⟨5, 142, none⟩), .pointer (some a), .int .u64 150]]).run Tryz.prog W
      = .ok (.agg #[.pointer (some ⟨5, 131, none⟩), .pointer (some p), .int .u64 406]) W := by
  rw [rlm]
  simp only [Sem.run_bind, Tryz.parts27, Result.andThen]
  simp [ReflectliteValue.elem, loadVar, isAgg, underlying, Tryz.underlying142, ha, Result.andThen, Tryz.elemOf27, Tryz.mk25]
theorem rls (v x : Value) : ReflectliteValue.set #[v, x] = (do
    let (some (dst, a, fl), some (src, b, _)) := (← ReflectliteValue.parts v, ← ReflectliteValue.parts x)
      | unsupported (.noEntry "extern/(internal/reflectlite.Value).Set.zeroValue")
    if fl / ReflectliteValue.flagAddr % 2 == 0 then unsupported (.noEntry "extern/(internal/reflectlite.Value).Set.unaddressable")
    let val ← loadVar src b
    if ← Rtype.directlyAssignable dst src then storeVar dst a val
    else if ← Rtype.implements dst src then
      if (← Rtype.kind src) == 20 then
        match val with
        | .nilIface => unsupported (.noEntry "extern/reflectlite: a nil value of one interface type handed on as a value of another")
        | _ => storeVar dst a val
      else storeVar dst a (.iface src val)
    else panicString ("reflectlite.Set: value of type " ++ (← Rtype.spelt src) ++ " is not assignable to type " ++ (← Rtype.spelt dst))
    pure (.tuple #[])) := rfl
theorem Tryz.parts25a (a : Addr) (w : World) : (ReflectliteValue.parts (.agg #[.pointer (some ⟨5, 131, none⟩), .pointer (some a), .int .u64 406])).run Tryz.prog w = .ok (some (131, a, 406)) w := by kernel_rfl
theorem Tryz.parts25 (a : Addr) (w : World) : (ReflectliteValue.parts (.agg #[.pointer (some ⟨5, 131, none⟩), .pointer (some a), .int .u64 150])).run Tryz.prog w = .ok (some (131, a, 150)) w := by kernel_rfl
theorem Tryz.direct25 (w : World) : (Rtype.directlyAssignable 131 131).run Tryz.prog w = .ok true w := by kernel_rfl
theorem Tryz.size25 (w : World) : (sizeOf 131).run Tryz.prog w = .ok 1 w := by kernel_rfl
theorem Tryz.set25 (ta b e : Addr) (old : Value) (W : World) (hb : W.cell? b = some (.pointer (some e))) (ht : W.cell? ta = some old) (hf : W.frozen? ta = false) :
    (ReflectliteValue.set #[.agg #[.pointer (some ⟨5, 131, none⟩), .pointer (some ta), .int .u64 406], .agg #[.pointer (some ⟨5, 131, none⟩), .pointer (some b), .int .u64 150]]).run Tryz.prog W
      = .ok (.tuple #[]) (W.setCell ta (.pointer (some e))) := by
  rw [rls]
  simp only [Sem.run_bind, Tryz.parts25a, Tryz.parts25, Result.andThen]
  simp [ReflectliteValue.flagAddr, loadVar, isAgg, underlying, Tryz.underlying131, hb, Result.andThen, Tryz.direct25, storeVar, Value.cells, storeCells, Addr.add]
  rw [run_store Tryz.prog W ta _ _ (by rfl)]
  simp [ht, hf]

set_option maxHeartbeats 4000000 in
theorem as_hit (e t : Addr) (old : Value) (w : World) (hg : w.cell? ⟨0, 0, none⟩ = some (.iface 168 (.agg #[.pointer (some ⟨5, 29, none⟩)]))) (ht0 : w.cell? t = some old) (hf0 : w.frozen? t = false) :
    Calls Tryz.prog 72 #[.iface 131 (.pointer (some e)), .iface 142 (.pointer (some t))] w fun ev w' => ev = .returned (.bool true) ∧ w' = ((((w.alloc (.cells #[.pointer (some t)] 142)).alloc (.cells #[.pointer (some ⟨5, 142, none⟩), .pointer (some ⟨w.heap.size, 0, none⟩), .int .u64 150] 160)).alloc (.cells #[.pointer (some ⟨5, 142, none⟩), .pointer (some ⟨w.heap.size, 0, none⟩), .int .u64 150] 160)).alloc (.cells #[.pointer (some e)] 131)).setCell t (.pointer (some e)) := by
  have h6 := @run_callFunc_extern Tryz.prog 92 _ (fun args => ReflectliteValue.unpack (args.getD 0 (.tuple #[]))) Tryz.func92 (by kernel_rfl) (by kernel_rfl) (by kernel_rfl) (by kernel_rfl)
  have h7 := @run_callFunc_extern Tryz.prog 93 _ (ReflectliteValue.methodAny (ReflectliteValue.valueError "reflectlite.Value.Type" 0) (fun t _ _ _ => ReflectliteType.toType t)) Tryz.func93 (by kernel_rfl) (by kernel_rfl) (by kernel_rfl) (by kernel_rfl)
  have h8 := @run_callFunc_extern Tryz.prog 94 _ (ReflectliteValue.method (ReflectliteValue.valueError "reflectlite.Value.IsNil" 0) ReflectliteValue.isNil) Tryz.func94 (by kernel_rfl) (by kernel_rfl) (by kernel_rfl) (by kernel_rfl)
  have h27 := @run_callFunc_extern Tryz.prog 155 _ (ReflectliteType.abiMethod fun t => do pure (.int .u8 (← Rtype.kind t))) Tryz.func155 (by kernel_rfl) (by kernel_rfl) (by kernel_rfl) (by kernel_rfl)
  have h37 := @run_callFunc_extern Tryz.prog 167 _ (ReflectliteType.method ReflectliteType.elem) Tryz.func167 (by kernel_rfl) (by kernel_rfl) (by kernel_rfl) (by kernel_rfl)
  have h38 := @run_callFunc_extern Tryz.prog 168 _ (ReflectliteType.relation "Implements" ReflectliteType.implements_) Tryz.func168 (by kernel_rfl) (by kernel_rfl) (by kernel_rfl) (by kernel_rfl)
  have h10 := @run_callFunc_extern Tryz.prog 73 _ ReflectliteType.typeOf Tryz.func73 (by kernel_rfl) (by kernel_rfl) (by kernel_rfl) (by kernel_rfl)
  have h35 := @run_callFunc_extern Tryz.prog 165 _ (ReflectliteType.relation "AssignableTo" ReflectliteType.assignableTo) Tryz.func165 (by kernel_rfl) (by kernel_rfl) (by kernel_rfl) (by kernel_rfl)
  have h11 := @run_callFunc_extern Tryz.prog 109 _ (ReflectliteValue.method (ReflectliteValue.valueError "reflectlite.Value.Elem" 0) ReflectliteValue.elem) Tryz.func109 (by kernel_rfl) (by kernel_rfl) (by kernel_rfl) (by kernel_rfl)
  have h12 := @run_callFunc_extern Tryz.prog 110 _ ReflectliteValue.set Tryz.func110 (by kernel_rfl) (by kernel_rfl) (by kernel_rfl) (by kernel_rfl)
  have tO := Tryz.typeOf25
  have mA := Tryz.methodAssignableTo
  have a25 := Tryz.assignable25
  have v25 := Tryz.valueOf25
  have f6 := Tryz.valueOf27
  have f7 := Tryz.type27
  have mK := Tryz.methodKind
  have mE := Tryz.methodElem
  have mI := Tryz.methodImplements
  have k27 := Tryz.kind27
  have k25 := Tryz.kind25
  have e27 := Tryz.elem27
  have i25 := Tryz.implements25
  have n8 := Tryz.isNil27 ⟨w.heap.size, 0, none⟩ t ((w.alloc (.cells #[.pointer (some t)] 142)).alloc (.cells #[.pointer (some ⟨5, 142, none⟩), .pointer (some ⟨w.heap.size, 0, none⟩), .int .u64 150] 160)) (by simp)
  have hlt : 0 < w.heap.size := by
    rcases Nat.eq_zero_or_pos w.heap.size with h0 | h
    · simp [World.cell?, h0] at hg
    · exact h
  have hg2 : ((w.alloc (.cells #[.pointer (some t)] 142)).alloc (.cells #[.pointer (some ⟨5, 142, none⟩), .pointer (some ⟨w.heap.size, 0, none⟩), .int .u64 150] 160)).cell? ⟨0, 0, none⟩ = some (.iface 168 (.agg #[.pointer (some ⟨5, 29, none⟩)])) := by
    rw [World.cell?_alloc_lt _ _ ⟨0, 0, none⟩ (by simp), World.cell?_alloc_lt _ _ ⟨0, 0, none⟩ hlt]; exact hg
  have htl : t.block < w.heap.size := by
    rcases Nat.lt_or_ge t.block w.heap.size with h | h
    · exact h
    · simp [World.cell?, Array.getElem?_eq_none h] at ht0
  have el := Tryz.elemV27 ⟨w.heap.size, 0, none⟩ t (((w.alloc (.cells #[.pointer (some t)] 142)).alloc (.cells #[.pointer (some ⟨5, 142, none⟩), .pointer (some ⟨w.heap.size, 0, none⟩), .int .u64 150] 160)).alloc (.cells #[.pointer (some ⟨5, 142, none⟩), .pointer (some ⟨w.heap.size, 0, none⟩), .int .u64 150] 160)) (by rw [World.cell?_alloc_lt _ _ ⟨w.heap.size, 0, none⟩ (by simp; omega)]; simp)
  have st := Tryz.set25 t ⟨w.heap.size + 1 + 1 + 1, 0, none⟩ e old ((((w.alloc (.cells #[.pointer (some t)] 142)).alloc (.cells #[.pointer (some ⟨5, 142, none⟩), .pointer (some ⟨w.heap.size, 0, none⟩), .int .u64 150] 160)).alloc (.cells #[.pointer (some ⟨5, 142, none⟩), .pointer (some ⟨w.heap.size, 0, none⟩), .int .u64 150] 160)).alloc (.cells #[.pointer (some e)] 131))
    (by rw [World.cell?_alloc_at _ _ _ _ (by simp)]; rfl)
    (by rw [World.cell?_alloc_lt _ _ t (by simp; omega), World.cell?_alloc_lt _ _ t (by simp; omega), World.cell?_alloc_lt _ _ t (by simp; omega), World.cell?_alloc_lt _ _ t htl]; exact ht0)
    (by rw [World.frozen?_alloc_old _ _ t (by simp; omega), World.frozen?_alloc_old _ _ t (by simp; omega), World.frozen?_alloc_old _ _ t (by simp; omega), World.frozen?_alloc_old _ _ t (Nat.ne_of_lt htl)]; exact hf0)
  go_enter Tryz.func72, Tryz.ntmps72
  go_wp2
  refine wp_loop_rounds 1 ?_
  rw [rounds_succ]
  go_wp2
  go_ret
  exact ⟨rfl, rfl⟩
end Go.Proofs.YtmnibmgbicnamaaGreatDoor
namespace Go.Proofs.YtmnibmgbicnamaaGreatDoor
open Go.RowKit Go.Extern.Stop Go.Stop Go.Extern

theorem Tryz.isTypeOf (v : Value) (w : World) : (Extern.ReflectliteType.typeOf #[.iface 89 v]).run Tryz.prog w = .ok (.iface 168 (.agg #[.pointer (some ⟨5, 89, none⟩)])) w := by kernel_rfl
/-- The model's entry for (rtype).Comparable, under a name of our own, so that the walk does not open it. -/
def cmpEntry : Array Value → Sem Value := Extern.ReflectliteType.method fun t => do Extern.Rtype.noPackHeld "Comparable" t; pure (.bool (← typeInfo t).comparable)
theorem Tryz.isComparable (w : World) : (cmpEntry #[.agg #[.pointer (some ⟨5, 89, none⟩)]]).run Tryz.prog w = .ok (.bool true) w := by kernel_rfl
theorem Tryz.isMethodComparable (v : Value) (w : World) : (Go.method 351 168 v "Comparable").run Tryz.prog w = .ok (166, v) w := by kernel_rfl
theorem Tryz.isComp : (Tryz.prog.info? 89).map (·.comparable) = some true := by kernel_rfl
/-- '==' at type error, both sides of type api.Errno: as the numbers are. -/
theorem Tryz.eqlErrno (a b : Int) (w : World) : (binOp .eql 29 (.iface 89 (.int .i64 a)) (.iface 89 (.int .i64 b))).run Tryz.prog w = .ok (.bool (a == b)) w := by
  obtain ⟨i, hi, hcmp⟩ := Option.map_eq_some_iff.1 Tryz.isComp
  have h : ∀ d : Nat, (Op.equalIn (d + 2) 29 (.iface 89 (.int .i64 a)) (.iface 89 (.int .i64 b))).run Tryz.prog w = .ok (a == b) w := fun d => by
    simp [Op.equalIn, run_underlying Tryz.underlying29, run_underlying Tryz.underlying89, typeInfo, hi, hcmp]
  simp only [binOp]
  simp [Op.equal, Op.maxDepth, h 9998]
theorem Tryz.noIsF (v : Value) (xT : TypeId) (w : World) : (Instr.typeAssert (.iface 131 v) xT 170 true).run Tryz.prog w = .ok (.tuple #[.nilIface, .bool false]) w := run_typeAssert_lacksB Tryz.underlying170 (by kernel_rfl) (by kernel_rfl) v xT w
theorem Tryz.hasUnwrapF (v : Value) (xT : TypeId) (w : World) : (Instr.typeAssert (.iface 131 v) xT 173 true).run Tryz.prog w = .ok (.tuple #[.iface 131 v, .bool true]) w := run_typeAssert_hasB Tryz.underlying173 (by kernel_rfl) v xT w
theorem Tryz.methodUnwrap (v : Value) (w : World) : (Go.method 351 131 v "Unwrap").run Tryz.prog w = .ok (160, v) w := by kernel_rfl

set_option maxHeartbeats 4000000 in
theorem is_fault (pb po : Nat) (c : Int) (w : World) (h2 : w.cell? ⟨pb, po + 2, none⟩ = some (.int .i64 c)) (h3 : w.cell? ⟨pb, po + 3, none⟩ = some .nilIface) :
    Calls Tryz.prog 39 #[.iface 131 (.pointer (some ⟨pb, po, none⟩)), .iface 89 (.int .i64 c)] w fun e w' => e = .returned (.bool true) ∧ w' = w := by
  have hT := @run_callFunc_extern Tryz.prog 73 _ Extern.ReflectliteType.typeOf Tryz.func73 (by kernel_rfl) (by kernel_rfl) (by kernel_rfl) (by kernel_rfl)
  have hC := @run_callFunc_extern Tryz.prog 166 _ cmpEntry Tryz.func166 (by kernel_rfl) (by kernel_rfl) (by kernel_rfl) (by kernel_rfl)
  have tT := Tryz.isTypeOf
  have cT := Tryz.isComparable
  have mR := Tryz.isMethodComparable
  have nF := Tryz.noIsF
  have uF := Tryz.hasUnwrapF
  have mU := Tryz.methodUnwrap
  have heq := Tryz.eqlErrno c c
  have hty := run_eql_iface_types (P := Tryz.prog) 131 89 (.pointer (some ⟨pb, po, none⟩)) (.int .i64 c) Tryz.underlying29 (by decide) w
  go_enter Tryz.func39, Tryz.ntmps39
  go_wp2
  refine wp_loop_rounds 2 ?_
  rw [rounds_succ]
  go_wp2
  rw [rounds_succ]
  go_wp2
  go_ret
  exact ⟨rfl, rfl⟩
end Go.Proofs.YtmnibmgbicnamaaGreatDoor
namespace Go.Proofs.YtmnibmgbicnamaaGreatDoor
open Go.RowKit Go.Extern.Stop Go.Stop Go.Extern

/-- errors.As(e, &t), e a fault: true; t points to it; all blocks below t's are as they were. -/
theorem as_fault (e : Addr) (tb : Nat) (old : Value) (w : World) (hg : w.cell? ⟨0, 0, none⟩ = some (.iface 168 (.agg #[.pointer (some ⟨5, 29, none⟩)]))) (ht0 : w.cell? ⟨tb, 0, none⟩ = some old) (hf0 : w.frozen? ⟨tb, 0, none⟩ = false) :
    Calls Tryz.prog 72 #[.iface 131 (.pointer (some e)), .iface 142 (.pointer (some ⟨tb, 0, none⟩))] w fun ev w' => ev = .returned (.bool true) ∧ w'.cell? ⟨tb, 0, none⟩ = some (.pointer (some e)) ∧ Below tb w w' ∧ w.heap.size < w'.heap.size := by
  have hlt : tb < w.heap.size := World.block_lt_of_cell? w _ ht0
  refine (as_hit e ⟨tb, 0, none⟩ old w hg ht0 hf0).mono ?_
  rintro ev w' ⟨rfl, rfl⟩
  refine ⟨rfl, ?_, ?_, ?_⟩
  · refine World.cell?_setCell_same _ _ _ (u := old) ?_
    rw [World.cell?_alloc_lt _ _ ⟨tb, 0, none⟩ (by simp; omega), World.cell?_alloc_lt _ _ ⟨tb, 0, none⟩ (by simp; omega), World.cell?_alloc_lt _ _ ⟨tb, 0, none⟩ (by simp; omega), World.cell?_alloc_lt _ _ ⟨tb, 0, none⟩ hlt]; exact ht0
  · refine Below.setCell (Below.alloc (Below.alloc (Below.alloc (Below.alloc (Below.refl _ _) ?_ _) ?_ _) ?_ _) ?_ _) ?_ _
    all_goals first | (simp; done) | omega | (simp; omega)
  · simp [World.setCell]; omega

theorem Tryz.infoLink : (Tryz.prog.info? 102).map (fun i => (i.zero, i.size, i.bytes)) = some (some (.agg #[.string ⟨#[]⟩, .int .i64 0, .int .i64 0]), 3, 32) := by kernel_rfl

set_option maxRecDepth 100000 in
set_option maxHeartbeats 3200000 in
/-- Chain of a fault with nothing under it. -/
theorem chain_fault (pb po : Nat) (ly : ByteArray) (at_ c : Int) (w : World) (hg : w.cell? ⟨0, 0, none⟩ = some (.iface 168 (.agg #[.pointer (some ⟨5, 29, none⟩)])))
    (h0 : w.cell? ⟨pb, po, none⟩ = some (.string ly)) (h1 : w.cell? ⟨pb, po + 1, none⟩ = some (.int .i64 at_)) (h2 : w.cell? ⟨pb, po + 2, none⟩ = some (.int .i64 c)) (h3 : w.cell? ⟨pb, po + 3, none⟩ = some .nilIface) :
    Calls Tryz.prog 38 #[.iface 131 (.pointer (some ⟨pb, po, none⟩))] w fun e w' => ∃ g cap, e = .returned (.slice (some ⟨g, 0, none⟩) 1 cap) ∧
      w'.cell? ⟨g, 0, none⟩ = some (.string ly) ∧ w'.cell? ⟨g, 1, none⟩ = some (.int .i64 at_) ∧ w'.cell? ⟨g, 2, none⟩ = some (.int .i64 c) ∧ w.heap.size ≤ g ∧ Below w.heap.size w w' := by
  obtain ⟨i0, hi0, hz0, hz1, hz2⟩ := info_parts Tryz.infoLink
  have hlt : pb < w.heap.size := World.block_lt_of_cell? w _ h0
  go_enter Tryz.func38, Tryz.ntmps38
  go_wp2
  refine wp_loop_rounds 2 ?_
  rw [rounds_succ]
  go_wp2_with fail
  refine (as_fault ⟨pb, po, none⟩ w.heap.size (.pointer none) _ ?_ (by simp) (by simp)).mono ?_
  · rw [World.cell?_alloc_lt _ _ ⟨0, 0, none⟩ (World.block_lt_of_cell? w _ hg)]; exact hg
  rintro e w1 ⟨rfl, ht, hb, hz⟩
  have hbw : Below w.heap.size w w1 := ((Below.refl _ _).alloc (Nat.le_refl _) _).trans hb
  simp at hz
  have k0 : w1.cell? ⟨pb, po, none⟩ = some (.string ly) := (hbw.cell (p := ⟨pb, po, none⟩) hlt).trans h0
  have k1 : w1.cell? ⟨pb, po + 1, none⟩ = some (.int .i64 at_) := (hbw.cell (p := ⟨pb, po + 1, none⟩) hlt).trans h1
  have k2 : w1.cell? ⟨pb, po + 2, none⟩ = some (.int .i64 c) := (hbw.cell (p := ⟨pb, po + 2, none⟩) hlt).trans h2
  have k3 : w1.cell? ⟨pb, po + 3, none⟩ = some .nilIface := (hbw.cell (p := ⟨pb, po + 3, none⟩) hlt).trans h3
  have HB : Hid (Below w.heap.size w w1) := hbw
  clear hbw hb h0 h1 h2 h3 hg
  go_wp2_with fail
  go_region_held3 (fun w' => w'.cell? ⟨w.heap.size, 0, none⟩ = some (.pointer (some ⟨pb, po, none⟩)) ∧ w'.cell? ⟨pb, po, none⟩ = some (.string ly) ∧ w'.cell? ⟨pb, po + 1, none⟩ = some (.int .i64 at_) ∧ w'.cell? ⟨pb, po + 2, none⟩ = some (.int .i64 c) ∧ w'.cell? ⟨pb, po + 3, none⟩ = some .nilIface)
    (first
      | go_keep
      | (go_split_ands
         refine ⟨?_, ?_, ?_, ?_, ?_⟩
         · (rw [hgrow.cell_far _ (by simp; omega) (by simp [Value.ownBlock])]; assumption)
         · (rw [hgrow.cell_far _ (by simp; omega) (by simp [Value.ownBlock])]; assumption)
         · (rw [hgrow.cell_far _ (by simp; omega) (by simp [Value.ownBlock])]; assumption)
         · (rw [hgrow.cell_far _ (by simp; omega) (by simp [Value.ownBlock])]; assumption)
         · (rw [hgrow.cell_far _ (by simp; omega) (by simp [Value.ownBlock])]; assumption)))
    ((refine step_append_lies _ (by rfl) _ _ _ (by rfl) w.heap.size 102 i0 _ 3 32 Tryz.underlying32 hi0 hz0 hz1 hz2 rfl (by omega) (.slice none 0 0) 0 [] (by rfl) (World.ownsRow_nil _ _ _ _)
        ⟨w1.heap.size, 0, none⟩ 1 1 [.string ly, .int .i64 at_, .int .i64 c] (by rfl) (by rfl) (World.news_of_block (cs := #[.string ly, .int .i64 at_, .int .i64 c]) (t := 102) (fr := (0, 0)) (heap_alloc_new w1 _)) (by simp [Value.oneCell'])
        (by omega) (by decide) (by decide) (by simp; omega) (w1.heap.size + 1) (by simp) ?_; intro gg cap w2 hown2 hgrow hat hlt2))
  go_wp2
  have hz2 : w1.heap.size < w2.heap.size := by
    have := hgrow.size; simp at this; omega
  rw [rounds_succ]
  go_wp2
  go_ret
  have hgg : gg = w1.heap.size + 1 := by simpa [Value.ownBlock] using hat
  have hc := hown2.cells (g := gg) (by simp [Value.ownBlock])
  refine ⟨gg, cap, by simp, by simpa [Addr.add] using hc 0 _ rfl, by simpa [Addr.add] using hc 1 _ rfl, by simpa [Addr.add] using hc 2 _ rfl, by omega, ?_⟩
  exact HB.out.trans (((Below.refl _ _).alloc (by omega) _).drew.grown hgrow (by simp; omega) (by simp [Value.ownBlock]))
end Go.Proofs.YtmnibmgbicnamaaGreatDoor
namespace Go.Proofs.YtmnibmgbicnamaaGreatDoor
open Go.RowKit Go.Extern.Stop Go.Stop Go.Extern

theorem refused_nil (w : World) (a : Option Addr) (cap : Nat) : Calls Tryz.prog 11 #[.nilIface, .slice a 0 cap] w fun e w' => e = .returned (.bool true) ∧ w' = w := by
  go_enter Tryz.func11, Tryz.ntmps11
  go_wp2
  go_ret
  exact ⟨rfl, rfl⟩

set_option maxRecDepth 100000 in
set_option maxHeartbeats 3200000 in
theorem refused_fault (pb po lb cap : Nat) (ly : ByteArray) (at_ c : Int) (w : World) (hg : w.cell? ⟨0, 0, none⟩ = some (.iface 168 (.agg #[.pointer (some ⟨5, 29, none⟩)])))
    (h0 : w.cell? ⟨pb, po, none⟩ = some (.string ly)) (h1 : w.cell? ⟨pb, po + 1, none⟩ = some (.int .i64 at_)) (h2 : w.cell? ⟨pb, po + 2, none⟩ = some (.int .i64 c)) (h3 : w.cell? ⟨pb, po + 3, none⟩ = some .nilIface)
    (l0 : w.cell? ⟨lb, 0, none⟩ = some (.string ly)) (l1 : w.cell? ⟨lb, 1, none⟩ = some (.int .i64 at_)) (l2 : w.cell? ⟨lb, 2, none⟩ = some (.int .i64 c)) :
    Calls Tryz.prog 11 #[.iface 131 (.pointer (some ⟨pb, po, none⟩)), .slice (some ⟨lb, 0, none⟩) 1 cap] w fun e w' => e = .returned (.bool true) ∧ Below w.heap.size w w' := by
  have hlt : pb < w.heap.size := World.block_lt_of_cell? w _ h0
  have hll : lb < w.heap.size := World.block_lt_of_cell? w _ l0
  go_enter Tryz.func11, Tryz.ntmps11
  go_wp2_with fail
  refine (chain_fault pb po ly at_ c _ hg h0 h1 h2 h3).mono ?_
  rintro e w1 ⟨g, cap1, rfl, g0, g1, g2, hgw, hb⟩
  have k2 : w1.cell? ⟨pb, po + 2, none⟩ = some (.int .i64 c) := (hb.cell (p := ⟨pb, po + 2, none⟩) hlt).trans h2
  have k3 : w1.cell? ⟨pb, po + 3, none⟩ = some .nilIface := (hb.cell (p := ⟨pb, po + 3, none⟩) hlt).trans h3
  have m0 : w1.cell? ⟨lb, 0, none⟩ = some (.string ly) := (hb.cell (p := ⟨lb, 0, none⟩) hll).trans l0
  have m1 : w1.cell? ⟨lb, 1, none⟩ = some (.int .i64 at_) := (hb.cell (p := ⟨lb, 1, none⟩) hll).trans l1
  have m2 : w1.cell? ⟨lb, 2, none⟩ = some (.int .i64 c) := (hb.cell (p := ⟨lb, 2, none⟩) hll).trans l2
  have HB : Hid (Below w.heap.size w w1) := hb
  clear hb h0 h1 h2 h3 hg l0 l1 l2 hgw
  go_wp2
  refine wp_loop_rounds 2 ?_
  rw [rounds_succ]
  go_wp2
  go_quiet (fail)
  go_wp2
  rw [rounds_succ]
  go_wp2_with fail
  refine (is_fault pb po c _ (by simpa using k2) (by simpa using k3)).mono ?_
  rintro e w2 ⟨rfl, rfl⟩
  go_wp2
  go_ret
  exact ⟨rfl, below_drewN HB.out nq⟩
end Go.Proofs.YtmnibmgbicnamaaGreatDoor
namespace Go.Proofs.YtmnibmgbicnamaaGreatDoor
open Go.RowKit Go.Extern.Stop Go.Stop Go.Extern

/-- A fault's four cells. -/
structure FCell (w : World) (pb : Nat) (ly : ByteArray) (a c : Int) (u : Value) : Prop where
  c0 : w.cell? ⟨pb, 0, none⟩ = some (.string ly)
  c1 : w.cell? ⟨pb, 1, none⟩ = some (.int .i64 a)
  c2 : w.cell? ⟨pb, 2, none⟩ = some (.int .i64 c)
  c3 : w.cell? ⟨pb, 3, none⟩ = some u
theorem FCell.lt {w : World} {pb : Nat} {ly : ByteArray} {a c : Int} {u : Value} (h : FCell w pb ly a c u) : pb < w.heap.size := World.block_lt_of_cell? w _ h.c0
theorem FCell.below {w w' : World} {pb B : Nat} {ly : ByteArray} {a c : Int} {u : Value} (h : FCell w pb ly a c u) (hb : Below B w w') (hB : pb < B) : FCell w' pb ly a c u :=
  ⟨(hb.cell (p := ⟨pb, 0, none⟩) hB).trans h.c0, (hb.cell (p := ⟨pb, 1, none⟩) hB).trans h.c1, (hb.cell (p := ⟨pb, 2, none⟩) hB).trans h.c2, (hb.cell (p := ⟨pb, 3, none⟩) hB).trans h.c3⟩
theorem ownsRow_kept {B : Nat} {e : TypeId} {k : Nat} {v : Value} {n : Nat} {xs : List Value} {w w' : World} {C : Nat} (h : w.ownsRow B e k v n xs) (hb : Below C w w') (hC : ∀ g, v.ownBlock = some g → g < C) : w'.ownsRow B e k v n xs := by
  obtain ⟨h1, h2⟩ := h
  refine ⟨h1, ?_⟩
  rcases h2 with h2 | ⟨g, cap, cur, rfl, hB, hc, hr⟩
  · exact .inl h2
  · exact .inr ⟨g, cap, cur, rfl, hB, by rw [hb.block g (hC g rfl)]; exact hc, hr⟩

set_option maxRecDepth 100000 in
set_option maxHeartbeats 6400000 in
/-- Chain of a fault with one under it. -/
theorem chain_fault2 (pb qb : Nat) (ly ly2 : ByteArray) (a c a2 c2 : Int) (w : World) (hg : w.cell? ⟨0, 0, none⟩ = some (.iface 168 (.agg #[.pointer (some ⟨5, 29, none⟩)])))
    (hp : FCell w pb ly a c (.iface 131 (.pointer (some ⟨qb, 0, none⟩)))) (hq : FCell w qb ly2 a2 c2 .nilIface) :
    Calls Tryz.prog 38 #[.iface 131 (.pointer (some ⟨pb, 0, none⟩))] w fun e w' => ∃ g cap, e = .returned (.slice (some ⟨g, 0, none⟩) 2 cap) ∧
      w'.ownsRow w.heap.size 102 3 (.slice (some ⟨g, 0, none⟩) 2 cap) 2 [.string ly, .int .i64 a, .int .i64 c, .string ly2, .int .i64 a2, .int .i64 c2] ∧ Below w.heap.size w w' := by
  obtain ⟨i0, hi0, hz0, hz1, hz2⟩ := info_parts Tryz.infoLink
  have hltp := hp.lt
  have hltq := hq.lt
  have HG : Hid (w.cell? ⟨0, 0, none⟩ = some (.iface 168 (.agg #[.pointer (some ⟨5, 29, none⟩)]))) := hg
  have HQ : Hid (FCell w qb ly2 a2 c2 .nilIface) := hq
  go_enter Tryz.func38, Tryz.ntmps38
  go_wp2
  refine wp_loop_rounds 3 ?_
  rw [rounds_succ]
  go_wp2_with fail
  refine (as_fault ⟨pb, 0, none⟩ w.heap.size (.pointer none) _ ?_ (by simp) (by simp)).mono ?_
  · rw [World.cell?_alloc_lt _ _ ⟨0, 0, none⟩ (World.block_lt_of_cell? w _ hg)]; exact hg
  rintro e w1 ⟨rfl, ht, hb, hz⟩
  have hbw : Below w.heap.size w w1 := ((Below.refl _ _).alloc (Nat.le_refl _) _).trans hb
  simp at hz
  obtain ⟨k0, k1, k2, k3⟩ := hp.below hbw hltp
  have HB : Hid (Below w.heap.size w w1) := hbw
  clear hbw hb hg hp hq
  go_wp2_with fail
  go_region_held3 (fun w' => w'.cell? ⟨w.heap.size, 0, none⟩ = some (.pointer (some ⟨pb, 0, none⟩)) ∧ w'.cell? ⟨pb, 0, none⟩ = some (.string ly) ∧ w'.cell? ⟨pb, 1, none⟩ = some (.int .i64 a) ∧ w'.cell? ⟨pb, 2, none⟩ = some (.int .i64 c) ∧ w'.cell? ⟨pb, 3, none⟩ = some (.iface 131 (.pointer (some ⟨qb, 0, none⟩))))
    (first
      | go_keep
      | (go_split_ands
         refine ⟨?_, ?_, ?_, ?_, ?_⟩
         · (rw [hgrow.cell_far _ (by simp; omega) (by simp [Value.ownBlock])]; assumption)
         · (rw [hgrow.cell_far _ (by simp; omega) (by simp [Value.ownBlock])]; assumption)
         · (rw [hgrow.cell_far _ (by simp; omega) (by simp [Value.ownBlock])]; assumption)
         · (rw [hgrow.cell_far _ (by simp; omega) (by simp [Value.ownBlock])]; assumption)
         · (rw [hgrow.cell_far _ (by simp; omega) (by simp [Value.ownBlock])]; assumption)))
    ((refine step_append_lies _ (by rfl) _ _ _ (by rfl) w.heap.size 102 i0 _ 3 32 Tryz.underlying32 hi0 hz0 hz1 hz2 rfl (by omega) (.slice none 0 0) 0 [] (by rfl) (World.ownsRow_nil _ _ _ _)
        ⟨w1.heap.size, 0, none⟩ 1 1 [.string ly, .int .i64 a, .int .i64 c] (by rfl) (by rfl) (World.news_of_block (cs := #[.string ly, .int .i64 a, .int .i64 c]) (t := 102) (fr := (0, 0)) (heap_alloc_new w1 _)) (by simp [Value.oneCell'])
        (by omega) (by decide) (by decide) (by simp; omega) (w1.heap.size + 1) (by simp) ?_; intro gg cap w2 hown2 hgrow hat hlt2))
  have hz2' : w1.heap.size < w2.heap.size := by
    have := hgrow.size; simp at this; omega
  have hgg : gg = w1.heap.size + 1 := by simpa [Value.ownBlock] using hat
  have hB2 : Below w.heap.size w w2 := HB.out.trans (((Below.refl _ _).alloc (by omega) _).drew.grown hgrow (by simp; omega) (by simp [Value.ownBlock]))
  have HO2 : Hid (w2.ownsRow w.heap.size 102 3 (.slice (some ⟨gg, 0, none⟩) 1 cap) 1 [.string ly, .int .i64 a, .int .i64 c] ∧ Below w.heap.size w w2 ∧ w.heap.size < gg) := ⟨hown2, hB2, by omega⟩
  clear hown2 hgrow hat hB2 hgg
  go_wp2
  rw [rounds_succ]
  clear ht hz k0 k1 k2 k3 hz2'
  go_wp2_with fail
  have hwl : w.heap.size ≤ w2.heap.size := HO2.out.2.1.size
  refine (as_fault ⟨qb, 0, none⟩ w2.heap.size (.pointer none) _ ?_ (by simp) (by simp)).mono ?_
  · have hv := World.block_lt_of_cell? w _ HG.out
    rw [World.cell?_alloc_lt _ _ ⟨0, 0, none⟩ (by simp at hv ⊢; omega)]
    exact (HO2.out.2.1.cell (p := ⟨0, 0, none⟩) hv).trans HG.out
  rintro e w3 ⟨rfl, ht, hb, hz⟩
  have hb3 : Below w2.heap.size w2 w3 := ((Below.refl _ _).alloc (Nat.le_refl _) _).trans hb
  simp at hz
  obtain ⟨k0, k1, k2, k3⟩ := (HQ.out.below HO2.out.2.1 hltq).below hb3 (by omega)
  have hown3 : w3.ownsRow w.heap.size 102 3 (.slice (some ⟨gg, 0, none⟩) 1 cap) 1 [.string ly, .int .i64 a, .int .i64 c] := ownsRow_kept HO2.out.1 hb3 (fun g hg => by simp [Value.ownBlock] at hg; omega)
  have HB3 : Hid (Below w.heap.size w w3) := HO2.out.2.1.trans (hb3.mono hwl)
  have hgq : w.heap.size < gg := HO2.out.2.2
  clear hb3 hb HO2 HB
  go_wp2_with fail
  go_region_held3 (fun w' => w'.cell? ⟨w2.heap.size, 0, none⟩ = some (.pointer (some ⟨qb, 0, none⟩)) ∧ w'.cell? ⟨qb, 0, none⟩ = some (.string ly2) ∧ w'.cell? ⟨qb, 1, none⟩ = some (.int .i64 a2) ∧ w'.cell? ⟨qb, 2, none⟩ = some (.int .i64 c2) ∧ w'.cell? ⟨qb, 3, none⟩ = some .nilIface)
    (first
      | go_keep
      | (go_split_ands
         refine ⟨?_, ?_, ?_, ?_, ?_⟩
         · (rw [hgrow.cell_far _ (by simp; omega) (by simp [Value.ownBlock]; omega)]; assumption)
         · (rw [hgrow.cell_far _ (by simp; omega) (by simp [Value.ownBlock]; omega)]; assumption)
         · (rw [hgrow.cell_far _ (by simp; omega) (by simp [Value.ownBlock]; omega)]; assumption)
         · (rw [hgrow.cell_far _ (by simp; omega) (by simp [Value.ownBlock]; omega)]; assumption)
         · (rw [hgrow.cell_far _ (by simp; omega) (by simp [Value.ownBlock]; omega)]; assumption)))
    ((refine step_append_lies _ (by rfl) _ _ _ (by rfl) w.heap.size 102 i0 _ 3 32 Tryz.underlying32 hi0 hz0 hz1 hz2 rfl (by omega) (.slice (some ⟨gg, 0, none⟩) 1 cap) 1 [.string ly, .int .i64 a, .int .i64 c] (by rfl) (ownsRow_kept hown3 (((Below.refl w3.heap.size w3).alloc (Nat.le_refl _) _).drew) (fun g hg => by simp [Value.ownBlock] at hg; omega))
        ⟨w3.heap.size, 0, none⟩ 1 1 [.string ly2, .int .i64 a2, .int .i64 c2] (by rfl) (by rfl) (World.news_of_block (cs := #[.string ly2, .int .i64 a2, .int .i64 c2]) (t := 102) (fr := (0, 0)) (heap_alloc_new w3 _)) (by simp [Value.oneCell'])
        (by omega) (by decide) (by decide) (by simp; omega) (w3.heap.size + 1) (by simp) ?_; intro g2 cap2 w4 hown4 hgrow hat hlt4))
  have hB4 : Below w.heap.size w w4 := HB3.out.trans (((Below.refl _ _).alloc (by omega) _).drew.grown hgrow (by simp; omega) (by simp [Value.ownBlock]; omega))
  have HO4 : Hid (w4.ownsRow w.heap.size 102 3 (.slice (some ⟨g2, 0, none⟩) 2 cap2) 2 [.string ly, .int .i64 a, .int .i64 c, .string ly2, .int .i64 a2, .int .i64 c2] ∧ Below w.heap.size w w4) := ⟨hown4, hB4⟩
  clear hown4 hgrow hat hB4 hown3
  go_wp2
  rw [rounds_succ]
  go_wp2
  go_ret
  exact ⟨g2, cap2, rfl, HO4.out⟩

set_option maxHeartbeats 6400000 in
theorem is_fault2 (pb qb : Nat) (ly ly2 : ByteArray) (a c a2 c2 : Int) (w : World) (hp : FCell w pb ly a c (.iface 131 (.pointer (some ⟨qb, 0, none⟩)))) (hq : FCell w qb ly2 a2 c2 .nilIface) :
    Calls Tryz.prog 39 #[.iface 131 (.pointer (some ⟨pb, 0, none⟩)), .iface 89 (.int .i64 c2)] w fun e w' => e = .returned (.bool true) ∧ w' = w := by
  have hT := @run_callFunc_extern Tryz.prog 73 _ Extern.ReflectliteType.typeOf Tryz.func73 (by kernel_rfl) (by kernel_rfl) (by kernel_rfl) (by kernel_rfl)
  have hC := @run_callFunc_extern Tryz.prog 166 _ cmpEntry Tryz.func166 (by kernel_rfl) (by kernel_rfl) (by kernel_rfl) (by kernel_rfl)
  have tT := Tryz.isTypeOf
  have cT := Tryz.isComparable
  have mR := Tryz.isMethodComparable
  have nF := Tryz.noIsF
  have uF := Tryz.hasUnwrapF
  have mU := Tryz.methodUnwrap
  have heq := Tryz.eqlErrno c2 c2
  have hty := run_eql_iface_types (P := Tryz.prog) 131 89 (.pointer (some ⟨pb, 0, none⟩)) (.int .i64 c2) Tryz.underlying29 (by decide) w
  have hty2 := run_eql_iface_types (P := Tryz.prog) 131 89 (.pointer (some ⟨qb, 0, none⟩)) (.int .i64 c2) Tryz.underlying29 (by decide) w
  obtain ⟨_, _, _, p3⟩ := hp
  obtain ⟨_, _, q2, q3⟩ := hq
  go_enter Tryz.func39, Tryz.ntmps39
  go_wp2
  refine wp_loop_rounds 3 ?_
  rw [rounds_succ]
  go_wp2
  rw [rounds_succ]
  go_wp2
  rw [rounds_succ]
  go_wp2
  go_ret
  exact ⟨rfl, rfl⟩

set_option maxRecDepth 100000 in
set_option maxHeartbeats 6400000 in
theorem refused_fault2 (pb qb lb cap : Nat) (ly ly2 : ByteArray) (a c a2 c2 : Int) (w : World) (hg : w.cell? ⟨0, 0, none⟩ = some (.iface 168 (.agg #[.pointer (some ⟨5, 29, none⟩)])))
    (hp : FCell w pb ly a c (.iface 131 (.pointer (some ⟨qb, 0, none⟩)))) (hq : FCell w qb ly2 a2 c2 .nilIface)
    (l0 : w.cell? ⟨lb, 0, none⟩ = some (.string ly)) (l1 : w.cell? ⟨lb, 1, none⟩ = some (.int .i64 a)) (l2 : w.cell? ⟨lb, 2, none⟩ = some (.int .i64 c))
    (l3 : w.cell? ⟨lb, 3, none⟩ = some (.string ly2)) (l4 : w.cell? ⟨lb, 4, none⟩ = some (.int .i64 a2)) (l5 : w.cell? ⟨lb, 5, none⟩ = some (.int .i64 c2)) :
    Calls Tryz.prog 11 #[.iface 131 (.pointer (some ⟨pb, 0, none⟩)), .slice (some ⟨lb, 0, none⟩) 2 cap] w fun e w' => e = .returned (.bool true) ∧ Below w.heap.size w w' := by
  have hll : lb < w.heap.size := World.block_lt_of_cell? w _ l0
  have hch := chain_fault2 pb qb ly ly2 a c a2 c2 w hg hp hq
  have HP : Hid (FCell w pb ly a c (.iface 131 (.pointer (some ⟨qb, 0, none⟩))) ∧ FCell w qb ly2 a2 c2 .nilIface) := ⟨hp, hq⟩
  clear hp hq hg
  go_enter Tryz.func11, Tryz.ntmps11
  go_wp2_with fail
  refine hch.mono ?_
  rintro e w1 ⟨g, cap1, rfl, hown, hb⟩
  have hc := hown.cells (g := g) (by simp [Value.ownBlock])
  have g0 : w1.cell? ⟨g, 0, none⟩ = some (.string ly) := by simpa [Addr.add] using hc 0 _ rfl
  have g1 : w1.cell? ⟨g, 1, none⟩ = some (.int .i64 a) := by simpa [Addr.add] using hc 1 _ rfl
  have g2 : w1.cell? ⟨g, 2, none⟩ = some (.int .i64 c) := by simpa [Addr.add] using hc 2 _ rfl
  have g3 : w1.cell? ⟨g, 3, none⟩ = some (.string ly2) := by simpa [Addr.add] using hc 3 _ rfl
  have g4 : w1.cell? ⟨g, 4, none⟩ = some (.int .i64 a2) := by simpa [Addr.add] using hc 4 _ rfl
  have g5 : w1.cell? ⟨g, 5, none⟩ = some (.int .i64 c2) := by simpa [Addr.add] using hc 5 _ rfl
  have m0 : w1.cell? ⟨lb, 0, none⟩ = some (.string ly) := (hb.cell (p := ⟨lb, 0, none⟩) hll).trans l0
  have m1 : w1.cell? ⟨lb, 1, none⟩ = some (.int .i64 a) := (hb.cell (p := ⟨lb, 1, none⟩) hll).trans l1
  have m2 : w1.cell? ⟨lb, 2, none⟩ = some (.int .i64 c) := (hb.cell (p := ⟨lb, 2, none⟩) hll).trans l2
  have m3 : w1.cell? ⟨lb, 3, none⟩ = some (.string ly2) := (hb.cell (p := ⟨lb, 3, none⟩) hll).trans l3
  have m4 : w1.cell? ⟨lb, 4, none⟩ = some (.int .i64 a2) := (hb.cell (p := ⟨lb, 4, none⟩) hll).trans l4
  have m5 : w1.cell? ⟨lb, 5, none⟩ = some (.int .i64 c2) := (hb.cell (p := ⟨lb, 5, none⟩) hll).trans l5
  have HB : Hid (Below w.heap.size w w1) := hb
  clear hb l0 l1 l2 l3 l4 l5 hown hc hch
  go_wp2
  refine wp_loop_rounds 3 ?_
  rw [rounds_succ]
  go_wp2
  go_quiet (fail)
  go_wp2
  rw [rounds_succ]
  go_wp2
  go_quiet (fail)
  go_wp2
  rw [rounds_succ]
  go_wp2_with fail
  refine (is_fault2 pb qb ly ly2 a c a2 c2 _ (HP.out.1.below (below_drewN HB.out _) HP.out.1.lt) (HP.out.2.below (below_drewN HB.out _) HP.out.2.lt)).mono ?_
  rintro e w2 ⟨rfl, rfl⟩
  go_wp2
  go_ret
  exact ⟨rfl, below_drewN HB.out _⟩
end Go.Proofs.YtmnibmgbicnamaaGreatDoor
namespace Go.Proofs.YtmnibmgbicnamaaGreatDoor
open Go.RowKit

/-- w' is w but for new blocks and for what lies in the blocks of S. -/
structure Turned (S : Nat → Prop) (w w' : World) : Prop where
  os : w'.os = w.os
  tape : w'.tape = w.tape
  output : w'.output = w.output
  size : w.heap.size ≤ w'.heap.size
  block : ∀ k, k < w.heap.size → ¬ S k → w'.heap[k]? = w.heap[k]?

theorem Turned.refl (S : Nat → Prop) (w : World) : Turned S w w := ⟨rfl, rfl, rfl, Nat.le_refl _, fun _ _ _ => rfl⟩
theorem Turned.trans {S T : Nat → Prop} {a b c : World} (h : Turned S a b) (k : Turned T b c) (hT : ∀ i, T i → S i ∨ a.heap.size ≤ i) : Turned S a c :=
  ⟨k.os.trans h.os, k.tape.trans h.tape, k.output.trans h.output, Nat.le_trans h.size k.size, fun i hi hs => (k.block i (Nat.lt_of_lt_of_le hi h.size) (fun ht => (hT i ht).elim hs (by omega))).trans (h.block i hi hs)⟩
theorem Turned.mono {S T : Nat → Prop} {a b : World} (h : Turned S a b) (hT : ∀ i, S i → T i ∨ a.heap.size ≤ i) : Turned T a b :=
  ⟨h.os, h.tape, h.output, h.size, fun i hi ht => h.block i hi (fun hs => (hT i hs).elim ht (by omega))⟩
theorem Turned.below {S : Nat → Prop} {a b : World} (h : Turned S a b) {B : Nat} (hB : B ≤ a.heap.size) (hS : ∀ i, S i → B ≤ i) : Below B a b :=
  ⟨h.os, h.tape, h.output, h.size, fun i hi => h.block i (by omega) (fun hs => by have := hS i hs; omega)⟩
theorem Turned.ofBelow {S : Nat → Prop} {a b : World} (h : Below a.heap.size a b) : Turned S a b := ⟨h.os, h.tape, h.output, h.size, fun i hi _ => h.block i hi⟩
theorem Turned.cell {S : Nat → Prop} {a b : World} (h : Turned S a b) {p : Addr} {v : Value} (hv : a.cell? p = some v) (hs : ¬ S p.block) : b.cell? p = some v :=
  (World.cell?_of_block (w := a) (h.block p.block (World.block_lt_of_cell? a _ hv) hs)).trans hv
theorem Turned.frozen {S : Nat → Prop} {a b : World} (h : Turned S a b) {p : Addr} (hp : p.block < a.heap.size) (hs : ¬ S p.block) : b.frozen? p = a.frozen? p := World.frozen?_of_block (w := a) (h.block p.block hp hs)
theorem Turned.setCell (w : World) (a : Addr) (u : Value) : Turned (fun k => k = a.block) w (w.setCell a u) :=
  ⟨rfl, rfl, rfl, by simp [World.setCell], fun k _ hk => Below.heap_setCell _ _ _ _ hk⟩
theorem Turned.drew (S : Nat → Prop) (w : World) : Turned S w w.drew := ⟨rfl, rfl, rfl, Nat.le_refl _, fun _ _ _ => rfl⟩
theorem Turned.alloc (S : Nat → Prop) (w : World) (o : Obj) : Turned S w (w.alloc o) := Turned.ofBelow ((Below.refl _ _).alloc (Nat.le_refl _) o)

/-- The block in which a slice lies. -/
def blk : Value → Nat → Prop
  | .slice (some a) _ _, k => a.block = k
  | _, _ => False

/-- The slice v reads as the bytes zs. -/
def Sl (w : World) (v : Value) (zs : List Int) : Prop :=
  (v = .slice none 0 0 ∧ zs = []) ∨ (∃ a, v = .slice (some a) 0 0 ∧ zs = []) ∨ ∃ g off cap, v = .slice (some ⟨g, off, none⟩) zs.length cap ∧ zs.length ≤ cap ∧ cap ≤ maxLen ∧ ∀ j (h : j < zs.length), w.cell? ⟨g, off + j, none⟩ = some (.int .u8 zs[j])

/-- .. and what is left of its array may be written. -/
def Own (w : World) (v : Value) (zs : List Int) : Prop :=
  (v = .slice none 0 0 ∧ zs = []) ∨ ∃ g off cap, v = .slice (some ⟨g, off, none⟩) zs.length cap ∧ zs.length ≤ cap ∧ cap ≤ maxLen ∧ g < w.heap.size ∧ (∀ j (h : j < zs.length), w.cell? ⟨g, off + j, none⟩ = some (.int .u8 zs[j])) ∧
    (∀ j, j < cap → (w.cell? ⟨g, off + j, none⟩).isSome = true ∧ w.frozen? ⟨g, off + j, none⟩ = false)

theorem Own.sl {w : World} {v : Value} {zs : List Int} (h : Own w v zs) : Sl w v zs := by
  rcases h with h | ⟨g, off, cap, h1, h2, h3, _, h4, _⟩
  · exact .inl h
  · exact .inr (.inr ⟨g, off, cap, h1, h2, h3, h4⟩)

theorem Sl.turned {S : Nat → Prop} {w w' : World} {v : Value} {zs : List Int} (h : Sl w v zs) (ht : Turned S w w') (hs : ∀ k, blk v k → ¬ S k) : Sl w' v zs := by
  rcases h with h | h | ⟨g, off, cap, rfl, h2, h3, h4⟩
  · exact .inl h
  · exact .inr (.inl h)
  · exact .inr (.inr ⟨g, off, cap, rfl, h2, h3, fun j hj => ht.cell (h4 j hj) (hs g rfl)⟩)

theorem Own.turned {S : Nat → Prop} {w w' : World} {v : Value} {zs : List Int} (h : Own w v zs) (ht : Turned S w w') (hs : ∀ k, blk v k → ¬ S k) : Own w' v zs := by
  rcases h with h | ⟨g, off, cap, rfl, h2, h3, hg, h4, h5⟩
  · exact .inl h
  · refine .inr ⟨g, off, cap, rfl, h2, h3, Nat.lt_of_lt_of_le hg ht.size, fun j hj => ht.cell (h4 j hj) (hs g rfl), fun j hj => ?_⟩
    obtain ⟨u, hu⟩ := Option.isSome_iff_exists.1 (h5 j hj).1
    exact ⟨by rw [ht.cell hu (hs g rfl)]; rfl, by rw [ht.frozen (p := ⟨g, off + j, none⟩) hg (hs g rfl)]; exact (h5 j hj).2⟩

theorem Own.blk_lt {w : World} {v : Value} {zs : List Int} (h : Own w v zs) : ∀ k, blk v k → k < w.heap.size := by
  rcases h with ⟨rfl, _⟩ | ⟨g, off, cap, rfl, _, _, hg, _⟩
  · intro k hk; exact hk.elim
  · intro k hk; exact (show g = k from hk) ▸ hg

/-- t is the type of slices of bytes in P, e that of bytes. -/
structure ByteTypes (P : Program) (t e : TypeId) : Prop where
  slice : P.underlying t = some (.slice e)
  info : ∃ i, P.info? e = some i ∧ i.zero = some (.int .u8 0) ∧ i.size = 1 ∧ i.bytes = 1

def cellsOfBytes (zs : List Int) : List Value := zs.map fun z => .int .u8 z
theorem cellsOfBytes_length (zs : List Int) : (cellsOfBytes zs).length = zs.length := by simp [cellsOfBytes]
theorem cellsOfBytes_one (zs : List Int) : ∀ u ∈ cellsOfBytes zs, u.oneCell' = true := by
  intro u hu; obtain ⟨z, _, rfl⟩ := List.mem_map.1 hu; rfl

theorem Sl.src {P : Program} {t e : TypeId} (hB : ByteTypes P t e) {w : World} {x : Value} {ys : List Int} (h : Sl w x ys) : Src P 1 t x ys.length (cellsOfBytes ys) w := by
  rcases h with ⟨rfl, rfl⟩ | ⟨a, rfl, rfl⟩ | ⟨g, off, cap, rfl, _, _, h4⟩
  · exact Src.ofNil w hB.slice 0
  · exact Src.ofSlice w hB.slice a 0 0 [] rfl (fun j u hj => by simp at hj) (fun u hu => by cases hu)
  · refine Src.ofSlice w hB.slice _ _ _ _ (by rw [cellsOfBytes_length]; omega) (fun j u hj => ?_) (cellsOfBytes_one ys)
    simp only [cellsOfBytes, List.getElem?_map, Option.map_eq_some_iff] at hj
    obtain ⟨z, hz, rfl⟩ := hj
    obtain ⟨hlt, rfl⟩ := List.getElem?_eq_some_iff.1 hz
    rw [Addr.add_lit]; exact h4 j hlt

theorem Own.first {P : Program} {w : World} {v : Value} {xs : List Int} (h : Own w v xs) : ∃ a cap, v = .slice a xs.length cap ∧ (Builtin.firstCells 1 xs.length v).run P w.drew = .ok (cellsOfBytes xs).toArray w.drew ∧ (a = none → xs.length = 0 ∧ cap = 0) := by
  rcases h with ⟨rfl, rfl⟩ | ⟨g, off, cap, rfl, _, _, _, h4, _⟩
  · exact ⟨none, 0, rfl, run_firstCells_none w.drew 1 0 0 0, fun _ => ⟨rfl, rfl⟩⟩
  · refine ⟨_, cap, rfl, run_firstCells_some w.drew 1 _ _ _ _ _ (by rw [cellsOfBytes_length]; omega) (fun j u hj => ?_), fun h => by cases h⟩
    simp only [cellsOfBytes, List.getElem?_map, Option.map_eq_some_iff] at hj
    obtain ⟨z, hz, rfl⟩ := hj
    obtain ⟨hlt, rfl⟩ := List.getElem?_eq_some_iff.1 hz
    rw [Addr.add_lit]; exact h4 j hlt

theorem Turned.setCells (b : Nat) (vs : List Value) : ∀ (o : Nat) (w : World), Turned (fun k => k = b) w (w.setCells b o vs) := by
  induction vs with
  | nil => intro o w; rw [World.setCells.eq_1]; exact Turned.refl _ _
  | cons v r ih => intro o w; rw [World.setCells.eq_2]; exact (Turned.setCell w ⟨b, o, none⟩ v).trans (ih (o + 1) _) (fun _ h => .inl h)

/-- append(v, x...), both slices of bytes, the first one's spare room its own. -/
theorem run_append_bytes {P : Program} {t e : TypeId} (hB : ByteTypes P t e) (ty : TypeId) {w : World} {v x : Value} {xs ys : List Int} (hv : Own w v xs) (hx : Sl w x ys) (hfit : xs.length + ys.length ≤ 70368744177664) :
    ∃ v' w', (Builtin.append_ #[t, t] ty #[v, x]).run P w = .ok v' w' ∧ Own w' v' (xs ++ ys) ∧ Turned (blk v) w w' ∧ ∀ k, blk v' k → blk v k ∨ k = w.heap.size := by
  obtain ⟨i, hi, hz, hsz, hby⟩ := hB.info
  have hsrc := hx.src (P := P) hB
  obtain ⟨a, cap, rfl, hold, hnone⟩ := hv.first (P := P)
  by_cases hroom : xs.length + ys.length ≤ cap
  · cases a with
    | none =>
      obtain ⟨h1, h2⟩ := hnone rfl
      have hx0 : xs = [] := List.eq_nil_of_length_eq_zero h1
      have hy0 : ys = [] := List.eq_nil_of_length_eq_zero (by omega)
      subst hx0 hy0 h2
      refine ⟨.slice none 0 0, w, ?_, .inl ⟨rfl, rfl⟩, Turned.refl _ _, fun k hk => hk.elim⟩
      have hl := hsrc.len w
      have hc := hsrc.cells
      simp [cellsOfBytes] at hl hc
      simp [Builtin.append_, run_underlying hB.slice, sizeOf, typeInfo, hi, hsz, hl, hc]
    | some a =>
      rcases hv with ⟨h, _⟩ | ⟨g, off, cap', h, h2, h3, hg, h4, h5⟩
      · cases h
      · cases h
        have hrun := run_append_room_src (P := P) w t t ty e i hB.slice hi g off xs.length cap x ys.length (cellsOfBytes ys) (by rw [hsz]; exact hsrc) hroom (fun j hj => by rw [cellsOfBytes_length] at hj; rw [hsz, Nat.mul_one, Nat.add_assoc]; exact (h5 _ (by omega)).1) (fun j hj => by rw [cellsOfBytes_length] at hj; rw [hsz, Nat.mul_one, Nat.add_assoc]; exact (h5 _ (by omega)).2)
        rw [hsz, Nat.mul_one] at hrun
        have ht := Turned.setCells g (cellsOfBytes ys) (off + xs.length) w
        have hin := World.cell?_setCells_in g (cellsOfBytes ys) (off + xs.length) w (fun j hj => by rw [cellsOfBytes_length] at hj; rw [Nat.add_assoc]; exact (h5 _ (by omega)).1)
        have hout := World.cell?_setCells_out g (cellsOfBytes ys) (off + xs.length) w
        refine ⟨_, _, hrun, .inr ⟨g, off, cap, by simp, by simpa using hroom, h3, Nat.lt_of_lt_of_le hg ht.size, fun j hj => ?_, fun j hj => ⟨?_, ?_⟩⟩, ht.mono (fun k hk => .inl hk.symm), fun k hk => .inl hk⟩
        · by_cases hjx : j < xs.length
          · rw [hout ⟨g, off + j, none⟩ (fun _ _ => .inl (by simp; omega)), h4 j hjx, List.getElem_append_left hjx]
          · have hjy : j - xs.length < (cellsOfBytes ys).length := by rw [cellsOfBytes_length]; simp at hj; omega
            have := hin (j - xs.length) hjy
            rw [show off + xs.length + (j - xs.length) = off + j by omega] at this
            rw [this, List.getElem_append_right (by omega)]
            simp [cellsOfBytes]
        · by_cases hjo : j < xs.length ∨ xs.length + ys.length ≤ j
          · rw [hout ⟨g, off + j, none⟩ (fun _ _ => by rw [cellsOfBytes_length]; simp; omega)]; exact (h5 j hj).1
          · have hjy : j - xs.length < (cellsOfBytes ys).length := by rw [cellsOfBytes_length]; omega
            have := hin (j - xs.length) hjy
            rw [show off + xs.length + (j - xs.length) = off + j by omega] at this
            rw [this]; rfl
        · rw [World.frozen?_setCells]; exact (h5 j hj).2
  · have hnext := nextslicecap_le (need := xs.length + ys.length) (old := cap) (by omega)
    have hrun := run_append_grow_src (P := P) w t t ty e i (.int .u8 0) hB.slice hi hz a xs.length cap (cellsOfBytes xs) (by rw [hsz]; exact hold) x ys.length (cellsOfBytes ys) (by rw [hsz]; exact hsrc) (by omega) (by omega) (by rw [hby]; omega)
    have hge := grownCap_ge w (xs.length + ys.length) cap e
    have hle := grownCap_le_maxLen w (xs.length + ys.length) cap e (by unfold maxLen; omega)
    generalize grownCap w (xs.length + ys.length) cap e = c at hrun hge hle
    refine ⟨_, _, hrun, .inr ⟨w.heap.size, 0, c, by simp, by simpa using hge, hle, by simp, fun j hj => ?_, fun j hj => ?_⟩, (Turned.drew _ _).trans (T := fun _ => False) (Turned.alloc _ _ _) (fun _ h => h.elim), fun k hk => .inr hk.symm⟩
    · have hj2 : j < xs.length + ys.length := by simpa using hj
      rw [World.cell?_alloc_at _ _ _ _ (by simp), Nat.zero_add, Array.getElem?_append_left (by simp [cellsOfBytes]; omega)]
      simp only [List.getElem?_toArray]
      rw [show cellsOfBytes xs ++ cellsOfBytes ys = cellsOfBytes (xs ++ ys) by simp [cellsOfBytes]]
      simp only [cellsOfBytes, List.getElem?_map, List.getElem?_eq_getElem hj, Option.map_some]
    · refine ⟨?_, by rw [show w.heap.size = w.drew.heap.size from rfl, World.frozen?_alloc_new]⟩
      rw [World.cell?_alloc_at _ _ _ _ (by simp), Nat.zero_add]
      simp [cellsOfBytes, size_zeroCells, Value.cells]
      omega

section
variable {P : Program} {t e : TypeId} {w : World} {v x : Value} {xs ys : List Int}

theorem wp_append_bytes {o : Oper} {a : Act} {K : Act → World → Prop} {Q : Exit → Act → World → Prop} (s y : Operand) (ho : o.op = .call { callee := .builtin .append, args := #[s, y], argTypes := #[t, t] })
    (hB : ByteTypes P t e) (hs : a.eval s = v) (hy : a.eval y = x) (hv : Own w v xs) (hx : Sl w x ys) (hfit : xs.length + ys.length ≤ 70368744177664)
    (h : ∀ v' w', Own w' v' (xs ++ ys) → Turned (blk v) w w' → (∀ k, blk v' k → blk v k ∨ k = w.heap.size) → K (a.put o.dst v') w') : o.wp P a w K Q := by
  obtain ⟨v', w', hr, h1, h2, h3⟩ := run_append_bytes hB o.type hv hx hfit
  unfold Oper.wp execOp
  simp only [ho, resolve, invoke, builtin, Sem.run_bind, Sem.run_pure, Result.andThen_ok, List.map_toArray, List.map_cons, List.map_nil, hs, hy, hr]
  exact h v' w' h1 h2 h3

/-- For the walk, at a plain region's list. -/
theorem wpList_append_bytes {ops : Array Oper} {rest : List Oper} {o : Oper} {a : Act} {Q : Exit → Act → World → Prop} (hgd : o.guard = none) (s y : Operand) (ho : o.op = .call { callee := .builtin .append, args := #[s, y], argTypes := #[t, t] })
    (hB : ByteTypes P t e) (hs : a.eval s = v) (hy : a.eval y = x) (hv : Own w v xs) (hx : Sl w x ys) (hfit : xs.length + ys.length ≤ 70368744177664)
    (h : ∀ v' w', Own w' v' (xs ++ ys) → Turned (blk v) w w' → (∀ k, blk v' k → blk v k ∨ k = w.heap.size) → wpList P ops Q rest (a.put o.dst v') w') : wpList P ops Q (o :: rest) a w :=
  wpList_plain hgd fun _ hK => wp_append_bytes s y ho hB hs hy hv hx hfit fun v' w' h1 h2 h3 => hK _ _ (h v' w' h1 h2 h3)

/-- At a step of a region that draws its order. -/
theorem step_append_bytes {ops : Array Oper} {o : Oper} {a : Act} {K : Act → World → Prop} {Q : Exit → Act → World → Prop} {E : Prop} (hgd : o.guard = none) (s y : Operand) (ho : o.op = .call { callee := .builtin .append, args := #[s, y], argTypes := #[t, t] })
    (hB : ByteTypes P t e) (hs : a.eval s = v) (hy : a.eval y = x) (hv : Own w v xs) (hx : Sl w x ys) (hfit : xs.length + ys.length ≤ 70368744177664)
    (h : ∀ v' w', Own w' v' (xs ++ ys) → Turned (blk v) w w' → (∀ k, blk v' k → blk v k ∨ k = w.heap.size) → K (a.put o.dst v') w') :
    if Region.wanted o (yielded ops a.tmps) = true then Oper.wp P o a w K Q else E := by
  rw [if_pos (by simp [Region.wanted, hgd])]
  exact wp_append_bytes s y ho hB hs hy hv hx hfit h
end

theorem Sl.form {w : World} {v : Value} {zs : List Int} (h : Sl w v zs) : ∃ a cap, v = .slice a zs.length cap ∧ zs.length ≤ cap ∧ cap ≤ maxLen := by
  rcases h with ⟨rfl, rfl⟩ | ⟨a, rfl, rfl⟩ | ⟨g, off, cap, rfl, h2, h3, _⟩
  · exact ⟨none, 0, rfl, Nat.le_refl _, Nat.zero_le _⟩
  · exact ⟨some a, 0, rfl, Nat.le_refl _, Nat.zero_le _⟩
  · exact ⟨_, cap, rfl, h2, h3⟩

/-- A slice made of nothing, in a block of its own. -/
theorem Own.empty (w : World) (t : TypeId) (H : Nat) (hH : H = w.heap.size) : Own (w.alloc (.cells #[] t)) (.slice (some ⟨H, 0, none⟩) 0 0) [] :=
  .inr ⟨H, 0, 0, rfl, Nat.le_refl _, Nat.zero_le _, by subst hH; simp, fun j h => absurd h (Nat.not_lt_zero j), fun j h => absurd h (Nat.not_lt_zero j)⟩

/-- The first n cells of block g hold f 0, f 1, .., and may be written. -/
def Block (w : World) (g n : Nat) (f : Nat → Value) : Prop := ∀ j, j < n → w.cell? ⟨g, j, none⟩ = some (f j) ∧ w.frozen? ⟨g, j, none⟩ = false
theorem Block.turned {S : Nat → Prop} {w w' : World} {g n : Nat} {f : Nat → Value} (h : Block w g n f) (ht : Turned S w w') (hs : ¬ S g) : Block w' g n f := fun j hj =>
  ⟨ht.cell (h j hj).1 hs, by rw [ht.frozen (p := ⟨g, j, none⟩) (World.block_lt_of_cell? w _ (h j hj).1) hs]; exact (h j hj).2⟩
theorem Block.set {w : World} {g n : Nat} {f : Nat → Value} (h : Block w g n f) (i : Nat) (v : Value) : Block (w.setCell ⟨g, i, none⟩ v) g n (fun j => if j = i then v else f j) := fun j hj => by
  refine ⟨?_, by rw [World.frozen?_setCell]; exact (h j hj).2⟩
  by_cases hji : j = i
  · subst hji; show _ = some (if j = j then v else f j); rw [if_pos rfl]; exact World.cell?_setCell_same _ _ _ (h j hj).1
  · show _ = some (if j = i then v else f j); rw [if_neg hji, World.cell?_setCell_other _ _ _ _ (fun e => hji (by have := congrArg Addr.off e; simpa using this.symm))]; exact (h j hj).1
theorem Block.congr {w : World} {g n : Nat} {f f' : Nat → Value} (h : Block w g n f) (hf : ∀ j, j < n → f j = f' j) : Block w g n f' := fun j hj => by rw [← hf j hj]; exact h j hj
theorem Block.lt {w : World} {g n : Nat} {f : Nat → Value} (h : Block w g n f) (hn : 0 < n) : g < w.heap.size := World.block_lt_of_cell? w _ (h 0 hn).1
end Go.Proofs.YtmnibmgbicnamaaGreatDoor
