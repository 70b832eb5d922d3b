/-
  The document's reader (heddleref06.Reader): its state, how it lies in memory; New, Feed, Widen.
-/
import Derived.Test.YtpbakejocjmkeaaDoorF2
namespace Go.Proofs.YtpbakejocjmkeaaDoor
open Go.RowKit





def rdCell (f : FSt) (B : Value) : Nat → Value
  | 0 => .int .i64 f.width
  | 1 => .int .i64 f.held.length
  | 2 => .int .i64 f.frames
  | 3 => .int .i64 f.ticks
  | 4 => .int .i64 f.bytes
  | 5 => .bool f.dead
  | _ => B

/-- The document's reader at block g, in state f. -/
structure RdMem (w : World) (g : Nat) (f : FSt) (B : Value) : Prop where
  cells : Block w g 7 (rdCell f B)
  sl : Sl w B f.held
  lt : ∀ k, blk B k → k < w.heap.size
  ne : ∀ k, blk B k → k ≠ g

/-- .. in blocks of R. -/
def RdAt (w : World) (g : Nat) (R : Nat → Prop) (f : FSt) : Prop := ∃ B, RdMem w g f B ∧ R g ∧ (∀ k, blk B k → R k) ∧ ∀ k, R k → k < w.heap.size

theorem RdMem.turned {S : Nat → Prop} {w w' : World} {g : Nat} {f : FSt} {B : Value} (h : RdMem w g f B) (ht : Turned S w w') (hg : ¬ S g) (hs : ∀ k, blk B k → ¬ S k) : RdMem w' g f B :=
  ⟨h.cells.turned ht hg, h.sl.turned ht hs, fun k hk => Nat.lt_of_lt_of_le (h.lt k hk) ht.size, h.ne⟩
theorem RdAt.turned {S : Nat → Prop} {w w' : World} {g : Nat} {R : Nat → Prop} {f : FSt} (h : RdAt w g R f) (ht : Turned S w w') (hs : ∀ k, R k → ¬ S k) : RdAt w' g R f := by
  obtain ⟨B, hm, hg, hB, hl⟩ := h
  exact ⟨B, hm.turned ht (hs g hg) (fun k hk => hs k (hB k hk)), hg, hB, fun k hk => Nat.lt_of_lt_of_le (hl k hk) ht.size⟩

theorem forall7 {p : Nat → Prop} (h0 : p 0) (h1 : p 1) (h2 : p 2) (h3 : p 3) (h4 : p 4) (h5 : p 5) (h6 : p 6) : ∀ j, j < 7 → p j := by
  intro j hj
  match j, hj with
  | 0, _ => exact h0
  | 1, _ => exact h1
  | 2, _ => exact h2
  | 3, _ => exact h3
  | 4, _ => exact h4
  | 5, _ => exact h5
  | 6, _ => exact h6

set_option maxRecDepth 100000 in
theorem refNew_arg (n : Int) (h2 : n ≠ 2) (h4 : n ≠ 4) (w : World) :
    Calls Tryd.prog 15 #[.int .i64 n] w fun e w' => ∃ v, e = .returned (.tuple #[.pointer none, v]) ∧ LinksF w.heap.size w' v (some (0, 1)) ∧ Below w.heap.size w w' := by
  have hm : most n = -1 := by unfold most; rw [if_neg h2, if_neg h4]
  go_enter Tryd.func15, Tryd.ntmps15
  go_wp2_with fail
  refine (greatest_any n w).mono ?_
  rintro e w' ⟨rfl, rfl⟩
  rw [hm]
  go_wp2_with (go_at_call 27; refine (no_any _ _ _).mono ?_; rintro e w1 ⟨v, rfl, hf, hb⟩)
  go_ret2
  exact ⟨v, rfl, hf, hb⟩

set_option maxRecDepth 100000 in
theorem refNew_ok (n : Nat) (hn : n = 2 ∨ n = 4) (w : World) :
    Calls Tryd.prog 15 #[.int .i64 n] w fun e w' => ∃ g R, e = .returned (.tuple #[.pointer (some ⟨g, 0, none⟩), .slice none 0 0]) ∧ RdAt w' g R (FSt.fresh n) ∧ Below w.heap.size w w' ∧ ∀ k, R k → w.heap.size ≤ k := by
  have hm0 : ¬ most n < 0 := by rcases hn with rfl | rfl <;> decide
  have hg := greatest_any n w
  generalize most n = k at hm0 hg
  go_enter Tryd.func15, Tryd.ntmps15
  go_wp2_with fail
  refine hg.mono ?_
  rintro e w' ⟨rfl, rfl⟩
  go_wp2
  go_ret2
  refine ⟨w.heap.size, fun k => k = w.heap.size, rfl, ⟨.slice none 0 0, ⟨?_, .inl ⟨rfl, rfl⟩, fun k hk => hk.elim, fun k hk => hk.elim⟩, rfl, fun k hk => hk.elim, fun k hk => by rw [hk]; simp⟩, (Below.refl _ _).alloc (Nat.le_refl _) _, fun k hk => Nat.le_of_eq hk.symm⟩
  refine forall7 ⟨?_, ?_⟩ ⟨?_, ?_⟩ ⟨?_, ?_⟩ ⟨?_, ?_⟩ ⟨?_, ?_⟩ ⟨?_, ?_⟩ ⟨?_, ?_⟩
  all_goals simp [rdCell, FSt.fresh]

set_option maxRecDepth 100000 in
theorem refFeed_dead {w : World} {g : Nat} {f : FSt} {B : Value} (h : RdMem w g f B) (hd : f.dead = true) (b : Value) :
    Calls Tryd.prog 17 #[.pointer (some ⟨g, 0, none⟩), b] w fun e w' => ∃ v, e = .returned v ∧ LinksF w.heap.size w' v (some (f.bytes, 120)) ∧ Below w.heap.size w w' := by
  have k5 := (h.cells 5 (by omega)).1
  have k4 := (h.cells 4 (by omega)).1
  simp only [rdCell, hd] at k4 k5
  clear h
  go_enter Tryd.func17, Tryd.ntmps17
  go_wp2_with (go_at_call 27; refine (no_any _ _ _).mono ?_; rintro e w1 ⟨v, rfl, hf, hb⟩)
  go_ret
  exact ⟨v, rfl, hf, hb⟩

set_option maxRecDepth 100000 in
theorem refFeed_long {w : World} {g : Nat} {f : FSt} {B : Value} (h : RdMem w g f B) (hd : f.dead = false) (hh : f.held.length ≤ 16777216) {b : Value} {bs : List Int} (hx : Sl w b bs) (hb2 : bs.length ≤ 140737488355328) (hl : 16777216 < (f.held.length : Int) + bs.length) :
    Calls Tryd.prog 17 #[.pointer (some ⟨g, 0, none⟩), b] w fun e w' => ∃ v, e = .returned v ∧ LinksF w.heap.size w' v (some (0, 4)) ∧ Below w.heap.size w w' := by
  obtain ⟨ab, cb, hf, hc, hm⟩ := hx.form
  subst hf
  obtain ⟨aB, cB, hfB, hcB, hmB⟩ := h.sl.form
  subst hfB
  have k5 := (h.cells 5 (by omega)).1
  have k6 := (h.cells 6 (by omega)).1
  simp only [rdCell, hd] at k5 k6
  clear h hx
  go_enter Tryd.func17, Tryd.ntmps17
  go_wp2_with (go_at_call 27; refine (no_any _ _ _).mono ?_; rintro e w1 ⟨v, rfl, hf, hb⟩)
  go_ret
  exact ⟨v, rfl, hf, hb⟩

set_option maxRecDepth 100000 in
set_option maxHeartbeats 1600000 in
theorem refFeed_ok {w : World} {g : Nat} {f : FSt} {B : Value} (h : RdMem w g f B) (hd : f.dead = false) {b : Value} {bs : List Int} (hx : Sl w b bs) (hl : ¬ 16777216 < (f.held.length : Int) + bs.length) :
    Calls Tryd.prog 17 #[.pointer (some ⟨g, 0, none⟩), b] w fun e w' => e = .returned (.slice none 0 0) ∧ ∃ B', RdMem w' g { f with held := f.held ++ bs } B' ∧ Turned (fun k => k = g) w w' ∧ ∀ k, blk B' k → w.heap.size ≤ k := by
  obtain ⟨ab, cb, hf, hc, hm⟩ := hx.form
  subst hf
  obtain ⟨aB, cB, hfB, hcB, hmB⟩ := h.sl.form
  subst hfB
  obtain ⟨k5, _⟩ := h.cells 5 (by omega)
  obtain ⟨k6, f6⟩ := h.cells 6 (by omega)
  obtain ⟨k1, f1⟩ := h.cells 1 (by omega)
  simp only [rdCell, hd] at k5 k6 k1
  have hgl : g < w.heap.size := World.block_lt_of_cell? w _ k6
  have HH : Hid (RdMem w g f (.slice aB f.held.length cB)) := h
  have HX : Hid (Sl w (.slice ab bs.length cb) bs) := hx
  have hB1 := fun t : TypeId => h.sl.turned (alloc0f w (.cells #[] t)) (fun _ _ h => h)
  have ho0 := fun t : TypeId => Own.empty w t _ rfl
  clear h hx
  go_enter Tryd.func17, Tryd.ntmps17
  go_wp2_with (first
    | (at_builtin; refine wpList_append_bytes (by rfl) (.tmp 27) (.tmp 31) (by rfl) Tryd.bytes (by rfl) (by rfl) (ho0 _) (hB1 _) (by simp; omega) ?_; intro v1 w1 ho1 ht1 hb1; have T1 : Turned (fun _ => False) w w1 := (alloc0f w _).trans ht1 (fun _ hk => .inr (Nat.le_of_eq hk)); have hk1 : ∀ k, blk v1 k → w.heap.size ≤ k := fun k hk => (hb1 k hk).elim (fun h => Nat.le_of_eq h) (fun h => by simp at h; omega); simp only [List.nil_append] at ho1; have hx1 := HX.out.turned T1 (fun _ _ h => h))
    | (at_builtin; refine wpList_append_bytes (by rfl) (.tmp 32) (.tmp 33) (by rfl) Tryd.bytes (by rfl) (by rfl) ho1 hx1 (by omega) ?_; intro v2 w2 ho2 ht2 hb2; have T2 : Turned (fun _ => False) w w2 := T1.trans ht2 (fun k hk => .inr (hk1 k hk)); have hk2 : ∀ k, blk v2 k → w.heap.size ≤ k := fun k hk => (hb2 k hk).elim (hk1 k) (fun h => by have := T1.size; omega); have HO2 := ho2; obtain ⟨a2, c2, rfl, _, _⟩ := ho2.sl.form; have j6 := T2.cell (p := ⟨g, 6, none⟩) k6 (fun h => h); have j1 := T2.cell (p := ⟨g, 1, none⟩) k1 (fun h => h); have g6 := (T2.frozen (p := ⟨g, 6, none⟩) hgl (fun h => h)).trans f6; have g1 := (T2.frozen (p := ⟨g, 1, none⟩) hgl (fun h => h)).trans f1))
  go_ret
  rw [List.length_append] at HO2 hk2
  have T3 := (Turned.setCell w2 ⟨g, 6, none⟩ (.slice a2 (f.held.length + bs.length) c2)).trans (Turned.setCell _ ⟨g, 1, none⟩ (.int .i64 ((f.held.length : Int) + bs.length))) (fun _ h => .inl h)
  have hgn : ∀ k, blk (.slice a2 (f.held.length + bs.length) c2) k → ¬ k = g := fun k hk he => by have := hk2 k hk; omega
  refine ⟨rfl, _, ⟨((((HH.out.cells.turned T2 (fun h => h)).set 6 _).set 1 _).congr (forall7 rfl ?_ rfl rfl rfl ?_ rfl)), (HO2.turned T3 hgn).sl, fun k hk => (HO2.turned T3 hgn).blk_lt k hk, hgn⟩, (T2.mono (fun _ h => h.elim)).trans T3 (fun _ h => .inl h), hk2⟩
  · simp [rdCell]
  · simp [rdCell, hd]

set_option maxRecDepth 100000 in
theorem refWiden_dead {w : World} {g : Nat} {f : FSt} {B : Value} (h : RdMem w g f B) (hd : f.dead = true) :
    Calls Tryd.prog 21 #[.pointer (some ⟨g, 0, none⟩)] w fun e w' => ∃ v, e = .returned v ∧ LinksF w.heap.size w' v (some (f.bytes, 120)) ∧ Below w.heap.size w w' := by
  have k5 := (h.cells 5 (by omega)).1
  have k4 := (h.cells 4 (by omega)).1
  simp only [rdCell, hd] at k4 k5
  clear h
  go_enter Tryd.func21, Tryd.ntmps21
  go_wp2_with (go_at_call 27; refine (no_any _ _ _).mono ?_; rintro e w1 ⟨v, rfl, hf, hb⟩)
  go_ret
  exact ⟨v, rfl, hf, hb⟩

set_option maxRecDepth 100000 in
theorem refWiden_twice {w : World} {g : Nat} {f : FSt} {B : Value} (h : RdMem w g f B) (hd : f.dead = false) (hw : f.width = 4) :
    Calls Tryd.prog 21 #[.pointer (some ⟨g, 0, none⟩)] w fun e w' => ∃ v, e = .returned v ∧ LinksF w.heap.size w' v (some (0, 6)) ∧ Below w.heap.size w w' := by
  have k5 := (h.cells 5 (by omega)).1
  have k0 := (h.cells 0 (by omega)).1
  simp only [rdCell, hd, hw] at k0 k5
  clear h
  go_enter Tryd.func21, Tryd.ntmps21
  go_wp2_with (go_at_call 27; refine (no_any _ _ _).mono ?_; rintro e w1 ⟨v, rfl, hf, hb⟩)
  go_ret
  exact ⟨v, rfl, hf, hb⟩

set_option maxRecDepth 100000 in
theorem refWiden_ok {w : World} {g : Nat} {f : FSt} {B : Value} (h : RdMem w g f B) (hd : f.dead = false) (hw : f.width = 2) :
    Calls Tryd.prog 21 #[.pointer (some ⟨g, 0, none⟩)] w fun e w' => e = .returned (.slice none 0 0) ∧ RdMem w' g { f with width := 4 } B ∧ Turned (fun k => k = g) w w' := by
  have k5 := (h.cells 5 (by omega)).1
  obtain ⟨k0, f0⟩ := h.cells 0 (by omega)
  simp only [rdCell, hd, hw] at k0 k5
  have HH : Hid (RdMem w g f B) := h
  clear h
  go_enter Tryd.func21, Tryd.ntmps21
  go_wp2
  go_ret
  have T3 := Turned.setCell w ⟨g, 0, none⟩ (.int .i64 4)
  have h := HH.out
  exact ⟨rfl, ⟨(h.cells.set 0 (.int .i64 4)).congr (forall7 rfl rfl rfl rfl rfl rfl rfl), h.sl.turned T3 h.ne, fun k hk => Nat.lt_of_lt_of_le (h.lt k hk) T3.size, h.ne⟩, T3⟩
end Go.Proofs.YtpbakejocjmkeaaDoor
