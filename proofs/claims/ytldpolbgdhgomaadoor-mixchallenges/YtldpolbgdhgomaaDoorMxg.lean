/-
  Layer 7 (mix): the program's generators: they are an MGen and, of those that nobody made, an MNo.
-/
import Derived.Test.YtldpolbgdhgomaaDoorMxa
import Derived.Test.YtldpolbgdhgomaaDoorM7
import Derived.Test.YtldpolbgdhgomaaDoorM8
namespace Go.Proofs.YtldpolbgdhgomaaDoor
open Go.RowKit

/-- The program's generator at block g. -/
def mgCell (g : Nat) (s n : Int) : Nat → Value
  | 0 => .pointer (some ⟨g, 0, none⟩)
  | 1 => .int .u64 s
  | _ => .int .i64 n
def GmAt (w : World) (g : Nat) (S : Nat → Prop) (s n : Int) : Prop := Block w g 3 (mgCell g s n) ∧ ∀ k, S k ↔ k = g
theorem forall3 {p : Nat → Prop} (h0 : p 0) (h1 : p 1) (h2 : p 2) : ∀ j, j < 3 → p j := by
  intro j hj
  match j, hj with
  | 0, _ => exact h0
  | 1, _ => exact h1
  | 2, _ => exact h2

set_option maxRecDepth 100000 in
theorem mix_new (s : Int) (w : World) : Calls Tryd.prog 16 #[.int .u64 s] w fun e w' => ∃ gb, e = .returned (.pointer (some ⟨gb, 0, none⟩)) ∧ Block w' gb 3 (mgCell gb s 0) ∧ Below w.heap.size w w' ∧ w.heap.size ≤ gb := by
  go_enter Tryd.func16, Tryd.ntmps16
  go_wp2
  go_ret
  refine ⟨w.heap.size, rfl, ?_, ?_, Nat.le_refl _⟩
  · refine forall3 ⟨?_, ?_⟩ ⟨?_, ?_⟩ ⟨?_, ?_⟩
    all_goals simp [mgCell]
  · exact (Below.refl _ _).alloc (Nat.le_refl _) _

/-- '==' of pointers to generators. -/
theorem Tryd.eqlGen (g : Nat) (w : World) : (binOp .eql 42 (.pointer (some ⟨g, 0, none⟩)) (.pointer (some ⟨g, 0, none⟩))).run Tryd.prog w = .ok (.bool true) w := by
  have h : ∀ d : Nat, (Op.equalIn (d + 1) 42 (.pointer (some ⟨g, 0, none⟩)) (.pointer (some ⟨g, 0, none⟩))).run Tryd.prog w = .ok true w := fun d => by simp [Op.equalIn, run_underlying Tryd.underlying42, sameAddr]
  simp only [binOp]
  simp [Op.equal, Op.maxDepth, h 9999]
theorem Tryd.eqlNilGen (a : Addr) (w : World) : (binOp .eql 42 (.pointer none) (.pointer (some a))).run Tryd.prog w = .ok (.bool false) w := by
  have h : ∀ d : Nat, (Op.equalIn (d + 1) 42 (.pointer none) (.pointer (some a))).run Tryd.prog w = .ok false w := fun d => by simp [Op.equalIn, run_underlying Tryd.underlying42]
  simp only [binOp]
  simp [Op.equal, Op.maxDepth, h 9999]
set_option maxRecDepth 100000 in
theorem mix_made {w : World} {g : Nat} (h : w.cell? ⟨g, 0, none⟩ = some (.pointer (some ⟨g, 0, none⟩))) : Calls Tryd.prog 31 #[.pointer (some ⟨g, 0, none⟩)] w fun e w' => e = .returned (.bool true) ∧ w = w' := by
  have he := Tryd.eqlGen
  go_enter Tryd.func31, Tryd.ntmps31
  go_wp2
  go_ret
  exact ⟨rfl, rfl⟩
set_option maxRecDepth 100000 in
theorem mix_made_nil (w : World) : Calls Tryd.prog 31 #[.pointer none] w fun e w' => e = .returned (.bool false) ∧ w = w' := by
  go_enter Tryd.func31, Tryd.ntmps31
  go_wp2
  go_ret
  exact ⟨rfl, rfl⟩
set_option maxRecDepth 100000 in
theorem mix_made_no {w : World} {g : Nat} (h : w.cell? ⟨g, 0, none⟩ = some (.pointer none)) : Calls Tryd.prog 31 #[.pointer (some ⟨g, 0, none⟩)] w fun e w' => e = .returned (.bool false) ∧ w = w' := by
  have he := Tryd.eqlNilGen
  go_enter Tryd.func31, Tryd.ntmps31
  go_wp2
  go_ret
  exact ⟨rfl, rfl⟩

set_option maxRecDepth 100000 in
theorem mix_step {w : World} {g : Nat} {s n : Int} (h : Block w g 3 (mgCell g s n)) : Calls Tryd.prog 33 #[.pointer (some ⟨g, 0, none⟩)] w fun e w' => e = .returned (.int .u64 (genS s)) ∧ Block w' g 3 (mgCell g (genS s) n) ∧ Turned (fun k => k = g) w w' := by
  obtain ⟨k1, f1⟩ := h 1 (by omega)
  simp only [mgCell] at k1
  have HH : Hid (Block w g 3 (mgCell g s n)) := h
  clear h
  go_enter Tryd.func33, Tryd.ntmps33
  go_wp2
  go_ret
  refine ⟨?_, ?_, ?_⟩
  · simp only [IntKind.wrap_u64]
    rfl
  · refine (HH.out.set 1 _).congr (forall3 rfl ?_ rfl)
    simp only [IntKind.wrap_u64]
    rfl
  · exact Turned.setCell w ⟨g, 1, none⟩ _

set_option maxRecDepth 100000 in
theorem mix_challenge {w : World} {g : Nat} {s n : Int} (h : Block w g 3 (mgCell g s n)) : Calls Tryd.prog 32 #[.func (.func 33) #[.pointer (some ⟨g, 0, none⟩)] #[]] w fun e w' => e = .returned (.int .u32 (chal (genS s))) ∧ Block w' g 3 (mgCell g (genS s) n) ∧ Turned (fun k => k = g) w w' := by
  have hst := mix_step h
  have hu : U64 (genS s) := U64.mod _
  generalize genS s = z at hst hu ⊢
  clear h
  go_enter Tryd.func32, Tryd.ntmps32
  go_wp2_with fail
  refine hst.mono ?_
  rintro e w1 ⟨rfl, h1, h2⟩
  go_wp2
  go_ret
  refine ⟨?_, h1, h2⟩
  simp only [IntKind.wrap_u64]
  rfl

set_option maxRecDepth 100000 in
theorem mix_next {w : World} {g : Nat} {s n : Int} (h : Block w g 3 (mgCell g s n)) : Calls Tryd.prog 17 #[.pointer (some ⟨g, 0, none⟩)] w fun e w' => e = .returned (.tuple #[.int .u32 (chal (genS s)), .nilIface]) ∧ Block w' g 3 (mgCell g (genS s) (wrap64 (n + 1))) ∧ Turned (fun k => k = g) w w' := by
  have hmf : ∀ (fn : Fn) (first cap : Array Value) (w : World), (Instr.makeFunc fn first cap).run Tryd.prog w = .ok (.func fn first cap) w := fun _ _ _ _ => rfl
  have hmd := mix_made (h 0 (by omega)).1
  obtain ⟨k2, f2⟩ := h 2 (by omega)
  simp only [mgCell] at k2
  have h1 : Block (w.setCell ⟨g, 2, none⟩ (.int .i64 (wrap64 (n + 1)))) g 3 (mgCell g s (wrap64 (n + 1))) := (h.set 2 _).congr (forall3 rfl rfl rfl)
  have hch := mix_challenge h1
  generalize chal (genS s) = ch at hch ⊢
  clear h h1
  go_enter Tryd.func17, Tryd.ntmps17
  go_wp2_with fail
  refine hmd.mono ?_
  rintro e w1 ⟨rfl, rfl⟩
  go_wp2_with fail
  refine hch.mono ?_
  rintro e w2 ⟨rfl, h1, h2⟩
  have HT : Hid (Block w2 g 3 (mgCell g (genS s) (wrap64 (n + 1))) ∧ Turned (fun k => k = g) w w2) := ⟨h1, (Turned.setCell w ⟨g, 2, none⟩ _).trans h2 (fun _ h => .inl h)⟩
  clear h1 h2 hch
  go_wp2
  go_ret2
  exact ⟨rfl, HT.out⟩

set_option maxRecDepth 100000 in
theorem mix_count {w : World} {g : Nat} {s n : Int} (h : Block w g 3 (mgCell g s n)) : Calls Tryd.prog 19 #[.pointer (some ⟨g, 0, none⟩)] w fun e w' => e = .returned (.int .i64 n) ∧ w = w' := by
  have hmd := mix_made (h 0 (by omega)).1
  have k2 := (h 2 (by omega)).1
  simp only [mgCell] at k2
  go_enter Tryd.func19, Tryd.ntmps19
  go_wp2_with fail
  refine hmd.mono ?_
  rintro e w1 ⟨rfl, rfl⟩
  go_wp2
  go_ret
  exact ⟨rfl, rfl⟩

/-- The program's generators are what is asked of them. -/
theorem mix_gen : MGen GmAt where
  lt := fun h k hk => by
    obtain rfl := (h.2 k).1 hk
    exact h.1.lt (by omega)
  turned := fun {w w' gb S T s n} h ht hs => ⟨h.1.turned ht (hs gb ((h.2 gb).2 rfl)), h.2⟩
  new := fun s w _ => (mix_new s w).mono fun e w' ⟨gb, h1, h2, h3, h4⟩ => ⟨gb, fun k => k = gb, h1, ⟨h2, fun _ => Iff.rfl⟩, h3, fun k hk => hk ▸ h4⟩
  next := fun {w gb S s n} h _ => (mix_next h.1).mono fun e w' ⟨h1, h2, h3⟩ => ⟨S, h1, ⟨h2, h.2⟩, h3.mono (fun i hi => .inl ((h.2 i).2 hi)), fun k hk => .inl hk⟩
  count := fun h => (mix_count h.1).mono fun e w' ⟨h1, h2⟩ => ⟨h1, h2 ▸ Below.refl _ _⟩

/-- A generator that nobody made. -/
def NoGen (w : World) (v : Value) : Prop := v = .pointer none ∨ ∃ g, v = .pointer (some ⟨g, 0, none⟩) ∧ w.cell? ⟨g, 0, none⟩ = some (.pointer none)
theorem mix_made_nobody {w : World} {v : Value} (h : NoGen w v) : Calls Tryd.prog 31 #[v] w fun e w' => e = .returned (.bool false) ∧ w = w' := by
  rcases h with rfl | ⟨g, rfl, h⟩
  · exact mix_made_nil w
  · exact mix_made_no h
set_option maxRecDepth 100000 in
theorem mix_next_no {w : World} {v : Value} (h : NoGen w v) : Calls Tryd.prog 17 #[v] w fun e w' => ∃ x, e = .returned (.tuple #[.int .u32 0, x]) ∧ FaultAt w.heap.size w' x (0, 3) ∧ Below w.heap.size w w' := by
  have hmd := mix_made_nobody h
  clear h
  go_enter Tryd.func17, Tryd.ntmps17
  go_wp2_with fail
  refine hmd.mono ?_
  rintro e w1 ⟨rfl, rfl⟩
  go_wp2_with fail
  refine (mix_refuse _ _ _).mono ?_
  rintro e w2 ⟨x, rfl, hf, hb⟩
  have HF : Hid (FaultAt w.heap.size w2 x (0, 3) ∧ Below w.heap.size w w2) := ⟨hf, hb⟩
  obtain ⟨pb, _, rfl, _⟩ := hf
  clear hb hmd
  go_wp2
  go_ret2
  exact ⟨_, rfl, HF.out⟩
set_option maxRecDepth 100000 in
theorem mix_count_no {w : World} {v : Value} (h : NoGen w v) : Calls Tryd.prog 19 #[v] w fun e w' => e = .returned (.int .i64 0) ∧ Below w.heap.size w w' := by
  have hmd := mix_made_nobody h
  clear h
  go_enter Tryd.func19, Tryd.ntmps19
  go_wp2_with fail
  refine hmd.mono ?_
  rintro e w1 ⟨rfl, rfl⟩
  go_wp2
  go_ret
  exact ⟨rfl, Below.refl _ _⟩
theorem mix_no : MNo NoGen where
  below := fun {w w' g} h hb => by
    rcases h with h | ⟨b, h1, h2⟩
    · exact .inl h
    · exact .inr ⟨b, h1, (hb.cell (p := ⟨b, 0, none⟩) (World.block_lt_of_cell? w _ h2)).trans h2⟩
  nil := fun _ => .inl rfl
  zero := fun w => .inr ⟨w.heap.size, rfl, by simp⟩
  next := mix_next_no
  count := mix_count_no
end Go.Proofs.YtldpolbgdhgomaaDoor
