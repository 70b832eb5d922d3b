/-
  Layer 8 (shake): which flags a node lacks, by the program.
-/
import Derived.Test.YtmnibmgbicnamaaGreatDoorShO
namespace Go.Proofs.YtmnibmgbicnamaaGreatDoor
open Go.RowKit Go.Extern.Stop Go.Stop Go.Extern

theorem Tryz.noIsE (v : Value) (xT : TypeId) (w : World) : (Instr.typeAssert (.iface 89 v) xT 170 true).run Tryz.prog w = .ok (.tuple #[.nilIface, .bool false]) w := run_typeAssert_lacksB Tryz.underlying170 (by kernel_rfl) (by kernel_rfl) v xT w
theorem Tryz.noUnwrapE (v : Value) (xT : TypeId) (w : World) : (Instr.typeAssert (.iface 89 v) xT 173 true).run Tryz.prog w = .ok (.tuple #[.nilIface, .bool false]) w := run_typeAssert_lacksB Tryz.underlying173 (by kernel_rfl) (by kernel_rfl) v xT w
theorem Tryz.noUnwrapsE (v : Value) (xT : TypeId) (w : World) : (Instr.typeAssert (.iface 89 v) xT 175 true).run Tryz.prog w = .ok (.tuple #[.nilIface, .bool false]) w := run_typeAssert_lacksB Tryz.underlying175 (by kernel_rfl) (by kernel_rfl) v xT w
set_option maxRecDepth 100000 in
set_option maxHeartbeats 4000000 in
/-- errors.Is at a fault with another number. -/
theorem is_fault_not (pb : Nat) (c d : Int) (hcd : c ≠ d) (w : World) (h2 : w.cell? ⟨pb, 2, none⟩ = some (.int .i64 c)) (h3 : w.cell? ⟨pb, 3, none⟩ = some .nilIface) :
    Calls Tryz.prog 39 #[.iface 131 (.pointer (some ⟨pb, 0, none⟩)), .iface 89 (.int .i64 d)] w fun e w' => e = .returned (.bool false) ∧ w' = w := by
  have hT := @run_callFunc_extern Tryz.prog 73 _ Extern.ReflectliteType.typeOf Tryz.func73 (by kernel_rfl) (by kernel_rfl) (by kernel_rfl) (by kernel_rfl)
  have hC := @run_callFunc_extern Tryz.prog 166 _ cmpEntry Tryz.func166 (by kernel_rfl) (by kernel_rfl) (by kernel_rfl) (by kernel_rfl)
  have tT := Tryz.isTypeOf
  have cT := Tryz.isComparable
  have mR := Tryz.isMethodComparable
  have nF := Tryz.noIsF
  have uF := Tryz.hasUnwrapF
  have mU := Tryz.methodUnwrap
  have nE := Tryz.noIsE
  have uE := Tryz.noUnwrapE
  have vE := Tryz.noUnwrapsE
  have heq := Tryz.eqlErrno c d
  have hq : (c == d) = false := by simpa using hcd
  rw [hq] at heq
  have hty := run_eql_iface_types (P := Tryz.prog) 131 89 (.pointer (some ⟨pb, 0, none⟩)) (.int .i64 d) Tryz.underlying29 (by decide) w
  go_enter Tryz.func39, Tryz.ntmps39
  go_wp2
  refine wp_loop_rounds 2 ?_
  rw [rounds_succ]
  go_wp2
  rw [rounds_succ]
  go_wp2
  go_ret
  exact ⟨rfl, rfl⟩
set_option maxRecDepth 100000 in
set_option maxHeartbeats 1600000 in
theorem sd_lacks (p : Pr) (w : World) : Calls Tryz.prog 103 #[.agg #[.string p.name, .int .u64 p.flags, .int .u32 p.creation]] w fun e w' => e = .returned (.bool (lacksB p.flags)) ∧ Below w.heap.size w w' := by
  have hcp := fun o : Obj => sd_checkPeer p (w.alloc o)
  obtain ⟨nm, fl, cr⟩ := p
  simp only at hcp ⊢
  unfold peerErr at hcp
  simp only at hcp
  cases hlk : lacksB fl with
  | true =>
    rw [hlk] at hcp
    simp only [if_true] at hcp
    clear hlk
    go_enter Tryz.func103, Tryz.ntmps103
    go_wp2_with fail
    refine (hcp _).mono ?_
    rintro e w1 ⟨v, rfl, ⟨pb, _, rfl, hf⟩, hb⟩
    have his := is_fault pb 0 162 w1 (by simpa using hf.c2) (by simpa using hf.c3)
    have HB : Hid (Below w.heap.size w w1) := ((Below.refl _ _).alloc (Nat.le_refl _) _).trans (hb.mono (by simp))
    clear hb hf hcp
    go_wp2_with fail
    refine his.mono ?_
    rintro e w2 ⟨rfl, rfl⟩
    go_wp2
    go_ret
    exact ⟨rfl, HB.out⟩
  | false =>
    rw [hlk] at hcp
    simp only [Bool.false_eq_true, if_false] at hcp
    clear hlk
    by_cases hc : cr = 0
    · subst hc
      rw [if_pos rfl] at hcp
      go_enter Tryz.func103, Tryz.ntmps103
      go_wp2_with fail
      refine (hcp _).mono ?_
      rintro e w1 ⟨v, rfl, ⟨pb, _, rfl, hf⟩, hb⟩
      have his := is_fault_not pb 1 162 (by decide) w1 hf.c2 hf.c3
      have HB : Hid (Below w.heap.size w w1) := ((Below.refl _ _).alloc (Nat.le_refl _) _).trans (hb.mono (by simp))
      clear hb hf hcp
      go_wp2_with fail
      refine his.mono ?_
      rintro e w2 ⟨rfl, rfl⟩
      go_wp2
      go_ret
      exact ⟨rfl, HB.out⟩
    · rw [if_neg hc] at hcp
      clear hc
      go_enter Tryz.func103, Tryz.ntmps103
      go_wp2_with fail
      refine (hcp _).mono ?_
      rintro e w1 ⟨v, rfl, hv, hb⟩
      have hv : v = .nilIface := hv
      subst hv
      have his := is_nil 162 w1
      have HB : Hid (Below w.heap.size w w1) := ((Below.refl _ _).alloc (Nat.le_refl _) _).trans (hb.mono (by simp))
      clear hb hcp
      go_wp2_with fail
      refine his.mono ?_
      rintro e w2 ⟨rfl, rfl⟩
      go_wp2
      go_ret
      exact ⟨rfl, HB.out⟩
end Go.Proofs.YtmnibmgbicnamaaGreatDoor
