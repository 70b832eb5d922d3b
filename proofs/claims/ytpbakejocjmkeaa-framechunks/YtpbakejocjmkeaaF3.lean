/-
  The document's reader (heddleref06.Reader): its state, how it lies in memory; New, Feed, Widen.
-/
import Derived.Test.YtpbakejocjmkeaaF2
namespace Go.Proofs.Ytpbakejocjmkeaa
open Go.RowKit





def rdCell (f : FSt) (B : Value) : Nat → Value
  | 0 => .int .i64 f.width
  | 1 => .int .i64 f.held.length
  | 2 => .int .i64 f.frames
  | 3 => .int .i64 f.ticks
  | 4 => .int .i64 f.bytes
  | 5 => .bool f.dead
  | _ => B

/-- The document's reader at block g, in state f. -/
structure RdMem (w : World) (g : Nat) (f : FSt) (B : Value) : Prop where
  cells : Block w g 7 (rdCell f B)
  sl : Sl w B f.held
  lt : ∀ k, blk B k → k < w.heap.size
  ne : ∀ k, blk B k → k ≠ g

/-- .. in blocks of R. -/
def RdAt (w : World) (g : Nat) (R : Nat → Prop) (f : FSt) : Prop := ∃ B, RdMem w g f B ∧ R g ∧ (∀ k, blk B k → R k) ∧ ∀ k, R k → k < w.heap.size

theorem RdMem.turned {S : Nat → Prop} {w w' : World} {g : Nat} {f : FSt} {B : Value} (h : RdMem w g f B) (ht : Turned S w w') (hg : ¬ S g) (hs : ∀ k, blk B k → ¬ S k) : RdMem w' g f B :=
  ⟨h.cells.turned ht hg, h.sl.turned ht hs, fun k hk => Nat.lt_of_lt_of_le (h.lt k hk) ht.size, h.ne⟩
theorem RdAt.turned {S : Nat → Prop} {w w' : World} {g : Nat} {R : Nat → Prop} {f : FSt} (h : RdAt w g R f) (ht : Turned S w w') (hs : ∀ k, R k → ¬ S k) : RdAt w' g R f := by
  obtain ⟨B, hm, hg, hB, hl⟩ := h
  exact ⟨B, hm.turned ht (hs g hg) (fun k hk => hs k (hB k hk)), hg, hB, fun k hk => Nat.lt_of_lt_of_le (hl k hk) ht.size⟩

theorem forall7 {p : Nat → Prop} (h0 : p 0) (h1 : p 1) (h2 : p 2) (h3 : p 3) (h4 : p 4) (h5 : p 5) (h6 : p 6) : ∀ j, j < 7 → p j := by
  intro j hj
  match j, hj with
  | 0, _ => exact h0
  | 1, _ => exact h1
  | 2, _ => exact h2
  | 3, _ => exact h3
  | 4, _ => exact h4
  | 5, _ => exact h5
  | 6, _ => exact h6

end Go.Proofs.Ytpbakejocjmkeaa
