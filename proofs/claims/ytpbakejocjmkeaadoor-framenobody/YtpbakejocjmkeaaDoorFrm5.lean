/-
  The program's reader in memory (PrMem); made, enter, held; New, State, Widen, Feed.
-/
import Derived.Test.YtpbakejocjmkeaaDoorFrm4
namespace Go.Proofs.YtpbakejocjmkeaaDoor
open Go.RowKit

def prCell (rb : Nat) (f : FSt) (B : Value) : Nat → Value
  | 0 => .pointer (some ⟨rb, 0, none⟩)
  | 1 => .int .i64 f.width
  | 2 => .int .i64 f.held.length
  | 3 => .int .i64 f.frames
  | 4 => .int .i64 f.ticks
  | 5 => .int .i64 f.bytes
  | 6 => .bool f.dead
  | _ => B

/-- The program's reader at block rb, in state f; its bytes lie in B: what is held is the last of them. -/
structure PrMem (w : World) (rb : Nat) (f : FSt) (B : Value) : Prop where
  cells : Block w rb 8 (prCell rb f B)
  own : f.dead = false → ∃ pre : List Int, pre.length ≤ 16777216 ∧ Own w B (pre ++ f.held)
  lt : ∀ k, blk B k → k < w.heap.size
  ne : ∀ k, blk B k → k ≠ rb

/-- .. in just the blocks of S. -/
def PrAt (w : World) (rb : Nat) (S : Nat → Prop) (f : FSt) : Prop := ∃ B, PrMem w rb f B ∧ ∀ k, S k ↔ (k = rb ∨ blk B k)
def prS (rb : Nat) (B : Value) (k : Nat) : Prop := k = rb ∨ blk B k
theorem PrMem.at_ {w : World} {rb : Nat} {f : FSt} {B : Value} (h : PrMem w rb f B) : PrAt w rb (prS rb B) f := ⟨B, h, fun _ => Iff.rfl⟩

theorem PrMem.turned {S : Nat → Prop} {w w' : World} {rb : Nat} {f : FSt} {B : Value} (h : PrMem w rb f B) (ht : Turned S w w') (hg : ¬ S rb) (hs : ∀ k, blk B k → ¬ S k) : PrMem w' rb f B :=
  ⟨h.cells.turned ht hg, fun hd => by obtain ⟨pre, h1, h2⟩ := h.own hd; exact ⟨pre, h1, h2.turned ht hs⟩, fun k hk => Nat.lt_of_lt_of_le (h.lt k hk) ht.size, h.ne⟩
theorem PrMem.below {w w' : World} {rb : Nat} {f : FSt} {B : Value} (h : PrMem w rb f B) (hb : Below w.heap.size w w') : PrMem w' rb f B := h.turned (Turned.ofBelow (S := fun _ => False) hb) (fun h => h) (fun _ _ h => h)
theorem PrAt.lt {w : World} {rb : Nat} {S : Nat → Prop} {f : FSt} (h : PrAt w rb S f) : ∀ k, S k → k < w.heap.size := by
  obtain ⟨B, hm, hS⟩ := h
  intro k hk
  rcases (hS k).1 hk with rfl | hk
  · exact hm.cells.lt (by omega)
  · exact hm.lt k hk
theorem PrAt.turned {w w' : World} {rb : Nat} {S T : Nat → Prop} {f : FSt} (h : PrAt w rb S f) (ht : Turned T w w') (hs : ∀ k, S k → ¬ T k) : PrAt w' rb S f := by
  obtain ⟨B, hm, hS⟩ := h
  exact ⟨B, hm.turned ht (hs rb ((hS rb).2 (.inl rfl))) (fun k hk => hs k ((hS k).2 (.inr hk))), hS⟩

theorem forall8 {p : Nat → Prop} (h0 : p 0) (h1 : p 1) (h2 : p 2) (h3 : p 3) (h4 : p 4) (h5 : p 5) (h6 : p 6) (h7 : p 7) : ∀ j, j < 8 → p j := by
  intro j hj
  match j, hj with
  | 0, _ => exact h0
  | 1, _ => exact h1
  | 2, _ => exact h2
  | 3, _ => exact h3
  | 4, _ => exact h4
  | 5, _ => exact h5
  | 6, _ => exact h6
  | 7, _ => exact h7

/-- '==' of a pointer to a reader and itself. -/
theorem Tryd.eqlReader (rb : Nat) (w : World) : (binOp .eql 40 (.pointer (some ⟨rb, 0, none⟩)) (.pointer (some ⟨rb, 0, none⟩))).run Tryd.prog w = .ok (.bool true) w := by
  have h : ∀ d : Nat, (Op.equalIn (d + 1) 40 (.pointer (some ⟨rb, 0, none⟩)) (.pointer (some ⟨rb, 0, none⟩))).run Tryd.prog w = .ok true w := fun d => by simp [Op.equalIn, run_underlying Tryd.underlying40, sameAddr]
  simp only [binOp]
  simp [Op.equal, Op.maxDepth, h 9999]

theorem frm_made {w : World} {rb : Nat} (h : w.cell? ⟨rb, 0, none⟩ = some (.pointer (some ⟨rb, 0, none⟩))) : Calls Tryd.prog 37 #[.pointer (some ⟨rb, 0, none⟩)] w fun e w' => e = .returned (.bool true) ∧ w = w' := by
  have he := Tryd.eqlReader
  go_enter Tryd.func37, Tryd.ntmps37
  go_wp2
  go_ret
  exact ⟨rfl, rfl⟩

set_option maxRecDepth 100000 in
theorem frm_enter_dead {w : World} {rb : Nat} {f : FSt} {B : Value} (h : PrMem w rb f B) (hd : f.dead = true) : Calls Tryd.prog 33 #[.pointer (some ⟨rb, 0, none⟩)] w fun e w' => ∃ v, e = .returned v ∧ FaultAt w.heap.size w' v (f.bytes, 120) ∧ Below w.heap.size w w' := by
  have k0 := (h.cells 0 (by omega)).1
  have k5 := (h.cells 5 (by omega)).1
  have k6 := (h.cells 6 (by omega)).1
  simp only [prCell, hd] at k0 k5 k6
  clear h
  go_enter Tryd.func33, Tryd.ntmps33
  go_wp2_with (first | (go_at_call 37; refine (frm_made k0).mono ?_; rintro e w' ⟨rfl, rfl⟩) | (go_at_call 25; refine (frm_refuse _ _ _).mono ?_; rintro e w1 ⟨v, rfl, hf, hb⟩))
  go_ret
  exact ⟨v, rfl, hf, hb⟩

set_option maxRecDepth 100000 in
theorem frm_enter_ok {w : World} {rb : Nat} {f : FSt} {B : Value} (h : PrMem w rb f B) (hd : f.dead = false) : Calls Tryd.prog 33 #[.pointer (some ⟨rb, 0, none⟩)] w fun e w' => e = .returned .nilIface ∧ w = w' := by
  have k0 := (h.cells 0 (by omega)).1
  have k6 := (h.cells 6 (by omega)).1
  simp only [prCell, hd] at k0 k6
  clear h
  go_enter Tryd.func33, Tryd.ntmps33
  go_wp2_with (first | (go_at_call 37; refine (frm_made k0).mono ?_; rintro e w' ⟨rfl, rfl⟩))
  go_ret
  exact ⟨rfl, rfl⟩

set_option maxRecDepth 100000 in
theorem frm_new_bad (n : Int) (w : World) (h2 : n ≠ 2) (h4 : n ≠ 4) : Calls Tryd.prog 14 #[.int .i64 n] w fun e w' => ∃ v, e = .returned (.tuple #[.pointer none, v]) ∧ ErrsF w.heap.size w' v (some (0, 1)) ∧ Below w.heap.size w w' := by
  go_enter Tryd.func14, Tryd.ntmps14
  go_wp2_with fail
  refine (frm_greatest_no n h2 h4 w).mono ?_
  rintro e w' ⟨rfl, rfl⟩
  go_wp2_with (go_at_call 25; refine (frm_refuse _ _ _).mono ?_; rintro e w1 ⟨v, rfl, hf, hb⟩)
  go_ret2
  exact ⟨v, rfl, hf, hb⟩

set_option maxRecDepth 100000 in
theorem frm_new (n : Nat) (w : World) (hn : n = 2 ∨ n = 4) : Calls Tryd.prog 14 #[.int .i64 n] w fun e w' => ∃ rb B, e = .returned (.tuple #[.pointer (some ⟨rb, 0, none⟩), .nilIface]) ∧ PrMem w' rb (FSt.fresh n) B ∧ Below w.heap.size w w' ∧ ∀ k, prS rb B k → w.heap.size ≤ k := by
  have hg := frm_greatest n hn w
  go_enter Tryd.func14, Tryd.ntmps14
  go_wp2_with fail
  refine hg.mono ?_
  rintro e w' ⟨rfl, rfl⟩
  go_wp2
  go_ret2
  refine ⟨w.heap.size, .slice none 0 0, rfl, ⟨?_, fun _ => ⟨[], by simp, .inl ⟨rfl, rfl⟩⟩, fun _ hk => hk.elim, fun _ hk => hk.elim⟩, ?_, fun k hk => hk.elim (fun h => Nat.le_of_eq h.symm) (fun h => h.elim)⟩
  · refine forall8 ⟨?_, ?_⟩ ⟨?_, ?_⟩ ⟨?_, ?_⟩ ⟨?_, ?_⟩ ⟨?_, ?_⟩ ⟨?_, ?_⟩ ⟨?_, ?_⟩ ⟨?_, ?_⟩
    all_goals simp [prCell, FSt.fresh]
  · exact (Below.refl _ _).alloc (Nat.le_refl _) _

set_option maxRecDepth 100000 in
theorem frm_state {w : World} {rb : Nat} {f : FSt} {B : Value} (h : PrMem w rb f B) : Calls Tryd.prog 22 #[.pointer (some ⟨rb, 0, none⟩)] w fun e w' => e = .returned f.framing ∧ Below w.heap.size w w' := by
  have k0 := (h.cells 0 (by omega)).1
  have k1 := (h.cells 1 (by omega)).1
  have k2 := (h.cells 2 (by omega)).1
  have k3 := (h.cells 3 (by omega)).1
  have k4 := (h.cells 4 (by omega)).1
  have k5 := (h.cells 5 (by omega)).1
  have k6 := (h.cells 6 (by omega)).1
  simp only [prCell] at k0 k1 k2 k3 k4 k5 k6
  have k0a := fun o : Obj => (alloc0f w o).cell (p := ⟨rb, 0, none⟩) k0 (fun h => h)
  have hrb : rb < w.heap.size := World.block_lt_of_cell? w _ k0
  clear h
  go_enter Tryd.func22, Tryd.ntmps22
  go_wp2_with fail
  refine (frm_made (k0a _)).mono ?_
  rintro e w' ⟨rfl, rfl⟩
  go_wp2
  exact bodyPost_ret (v := .agg #[.int .i64 f.width, .int .i64 f.held.length, .int .i64 f.frames, .int .i64 f.ticks, .int .i64 f.bytes, .bool f.dead]) (by simp [results, Tryd.results22, go_sem]) rfl ⟨rfl, (Below.refl _ _).alloc (Nat.le_refl _) _⟩

set_option maxRecDepth 100000 in
theorem frm_widen_dead {w : World} {rb : Nat} {f : FSt} {B : Value} (h : PrMem w rb f B) (hd : f.dead = true) :
    Calls Tryd.prog 20 #[.pointer (some ⟨rb, 0, none⟩)] w fun e w' => ∃ v, e = .returned v ∧ FaultAt w.heap.size w' v (f.bytes, 120) ∧ Below w.heap.size w w' := by
  have he := frm_enter_dead h hd
  clear h
  go_enter Tryd.func20, Tryd.ntmps20
  go_wp2_with fail
  refine he.mono ?_
  rintro e w1 ⟨v, rfl, hf, hb⟩
  have HF : Hid (FaultAt w.heap.size w1 v (f.bytes, 120)) := hf
  obtain ⟨pb, hpb, rfl, _⟩ := hf
  go_wp2
  go_ret
  exact ⟨_, rfl, HF.out, hb⟩

set_option maxRecDepth 100000 in
theorem frm_widen_twice {w : World} {rb : Nat} {f : FSt} {B : Value} (h : PrMem w rb f B) (hd : f.dead = false) (hw : f.width = 4) :
    Calls Tryd.prog 20 #[.pointer (some ⟨rb, 0, none⟩)] w fun e w' => ∃ v, e = .returned v ∧ FaultAt w.heap.size w' v (0, 6) ∧ Below w.heap.size w w' := by
  have he := frm_enter_ok h hd
  have k1 := (h.cells 1 (by omega)).1
  simp only [prCell, hw] at k1
  clear h
  go_enter Tryd.func20, Tryd.ntmps20
  go_wp2_with (first | (go_at_call 33; refine he.mono ?_; rintro e w' ⟨rfl, rfl⟩) | (go_at_call 25; refine (frm_refuse _ _ _).mono ?_; rintro e w1 ⟨v, rfl, hf, hb⟩))
  go_ret
  exact ⟨v, rfl, hf, hb⟩

set_option maxRecDepth 100000 in
theorem frm_widen_ok {w : World} {rb : Nat} {f : FSt} {B : Value} (h : PrMem w rb f B) (hd : f.dead = false) (hw : f.width = 2) :
    Calls Tryd.prog 20 #[.pointer (some ⟨rb, 0, none⟩)] w fun e w' => e = .returned .nilIface ∧ PrMem w' rb { f with width := 4 } B ∧ Turned (fun k => k = rb) w w' := by
  have he := frm_enter_ok h hd
  obtain ⟨k1, f1⟩ := h.cells 1 (by omega)
  simp only [prCell, hw] at k1
  have HH : Hid (PrMem w rb f B) := h
  clear h
  go_enter Tryd.func20, Tryd.ntmps20
  go_wp2_with (first | (go_at_call 33; refine he.mono ?_; rintro e w' ⟨rfl, rfl⟩))
  go_ret
  have T3 := Turned.setCell w ⟨rb, 1, none⟩ (.int .i64 4)
  have h := HH.out
  exact ⟨rfl, ⟨(h.cells.set 1 (.int .i64 4)).congr (forall8 rfl rfl rfl rfl rfl rfl rfl rfl), fun hd => by obtain ⟨pre, h1, h2⟩ := h.own hd; exact ⟨pre, h1, h2.turned T3 h.ne⟩, fun k hk => Nat.lt_of_lt_of_le (h.lt k hk) T3.size, h.ne⟩, T3⟩
end Go.Proofs.YtpbakejocjmkeaaDoor
