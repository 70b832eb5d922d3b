/-
  heddlelaw05.StreamOrders: what it has gathered, in memory: two arrays of two slices of bytes each, apart from each other and from the stream.
-/
import Derived.Test.YtjkmklbkemoldaaDoorOrders0
namespace Go.Proofs.YtjkmklbkemoldaaDoor
open Go.RowKit

/-- The array's block and place of slice i: 0 and 1 lie in gs, 2 and 3 in gr. -/
def seat (gs gr i : Nat) : Addr := if i < 2 then ⟨gs, i, none⟩ else ⟨gr, i - 2, none⟩
def upd {α : Type} (V : Nat → α) (i : Nat) (v : α) (j : Nat) : α := if j = i then v else V j
theorem upd_same {α : Type} (V : Nat → α) (i : Nat) (v : α) : upd V i v i = v := by simp [upd]
theorem upd_other {α : Type} (V : Nat → α) {i j : Nat} (v : α) (h : j ≠ i) : upd V i v j = V j := by simp [upd, h]

structure Four (w : World) (B gs gr : Nat) (S : Nat → Prop) (V : Nat → Value) (z : Nat → List Int) : Prop where
  cell : ∀ i, i < 4 → w.cell? (seat gs gr i) = some (V i) ∧ w.frozen? (seat gs gr i) = false
  own : ∀ i, i < 4 → Own w (V i) (z i)
  ne : gs ≠ gr
  off : ∀ i, i < 4 → ∀ q, blk (V i) q → q ≠ gs ∧ q ≠ gr ∧ ¬ S q ∧ B ≤ q
  apart : ∀ i j, i < 4 → j < 4 → i ≠ j → ∀ q, blk (V i) q → ¬ blk (V j) q
  ns : ¬ S gs ∧ ¬ S gr
  big : B ≤ gs ∧ B ≤ gr
  lt : gs < w.heap.size ∧ gr < w.heap.size

theorem seat_block (gs gr i : Nat) : (seat gs gr i).block = gs ∨ (seat gs gr i).block = gr := by
  unfold seat; split
  · exact .inl rfl
  · exact .inr rfl
theorem seat_ne {gs gr i j : Nat} (h : gs ≠ gr) (hi : i < 4) (hj : j < 4) (hij : i ≠ j) : seat gs gr i ≠ seat gs gr j := by
  unfold seat
  split <;> split <;> intro he <;> simp only [Addr.mk.injEq] at he <;> omega

/-- The stream has moved on. -/
theorem Four.turned {w w' : World} {B gs gr : Nat} {S S' : Nat → Prop} {V : Nat → Value} {z : Nat → List Int} (h : Four w B gs gr S V z) (ht : Turned S w w') (hS : ∀ k, S' k → S k ∨ w.heap.size ≤ k) : Four w' B gs gr S' V z := by
  have hb : ∀ i, ¬ S (seat gs gr i).block := fun i => (seat_block gs gr i).elim (fun e => by rw [e]; exact h.ns.1) (fun e => by rw [e]; exact h.ns.2)
  have hl : ∀ i, (seat gs gr i).block < w.heap.size := fun i => (seat_block gs gr i).elim (fun e => by rw [e]; exact h.lt.1) (fun e => by rw [e]; exact h.lt.2)
  refine ⟨fun i hi => ⟨ht.cell (h.cell i hi).1 (hb i), (ht.frozen (hl i) (hb i)).trans (h.cell i hi).2⟩, fun i hi => (h.own i hi).turned ht (fun q hq => (h.off i hi q hq).2.2.1), h.ne, fun i hi q hq => ?_, h.apart, ⟨fun hs => ?_, fun hs => ?_⟩, h.big, ⟨Nat.lt_of_lt_of_le h.lt.1 ht.size, Nat.lt_of_lt_of_le h.lt.2 ht.size⟩⟩
  · obtain ⟨h1, h2, h3, h4⟩ := h.off i hi q hq
    exact ⟨h1, h2, fun hs => (hS q hs).elim h3 (fun h' => by have := (h.own i hi).blk_lt q hq; omega), h4⟩
  · exact (hS gs hs).elim h.ns.1 (fun h' => by have := h.lt.1; omega)
  · exact (hS gr hs).elim h.ns.2 (fun h' => by have := h.lt.2; omega)

/-- Only what is new has turned. -/
theorem Four.below {w w' : World} {B gs gr : Nat} {S : Nat → Prop} {V : Nat → Value} {z : Nat → List Int} (h : Four w B gs gr S V z) (hb : Below w.heap.size w w') : Four w' B gs gr S V z :=
  h.turned (Turned.ofBelow hb) (fun _ h => .inl h)

/-- Slice i has been appended to, and its place written. -/
theorem Four.put {w w1 : World} {B gs gr : Nat} {S : Nat → Prop} {V : Nat → Value} {z : Nat → List Int} (h : Four w B gs gr S V z) {i : Nat} (hi : i < 4) {v : Value} {ys : List Int} (hS : ∀ q, S q → q < w.heap.size) (hB : B ≤ w.heap.size)
    (ho : Own w1 v ys) (ht : Turned (blk (V i)) w w1) (hv : ∀ q, blk v q → blk (V i) q ∨ q = w.heap.size) : Four (w1.setCell (seat gs gr i) v) B gs gr S (upd V i v) (upd z i ys) := by
  have nb : ∀ j q, j < 4 → blk (V j) q → q ≠ (seat gs gr i).block := fun j q hj hq => (seat_block gs gr i).elim (fun e => by rw [e]; exact (h.off j hj q hq).1) (fun e => by rw [e]; exact (h.off j hj q hq).2.1)
  have hb : ∀ j, ¬ blk (V i) (seat gs gr j).block := fun j hq => (seat_block gs gr j).elim (fun e => (h.off i hi _ hq).1 e) (fun e => (h.off i hi _ hq).2.1 e)
  have hl : ∀ j, (seat gs gr j).block < w.heap.size := fun j => (seat_block gs gr j).elim (fun e => by rw [e]; exact h.lt.1) (fun e => by rw [e]; exact h.lt.2)
  have TS := Turned.setCell w1 (seat gs gr i) v
  have c1 : ∀ j, j < 4 → w1.cell? (seat gs gr j) = some (V j) := fun j hj => ht.cell (h.cell j hj).1 (hb j)
  have nv : ∀ q, blk v q → q ≠ (seat gs gr i).block := fun q hq => (hv q hq).elim (nb i q hi) (fun e => by have := hl i; omega)
  have hw : (w1.setCell (seat gs gr i) v).heap.size = w1.heap.size := by simp [World.setCell]
  refine ⟨fun j hj => ?_, fun j hj => ?_, h.ne, fun j hj q hq => ?_, fun j k hj hk hjk q hq => ?_, h.ns, h.big, ⟨by rw [hw]; exact Nat.lt_of_lt_of_le h.lt.1 ht.size, by rw [hw]; exact Nat.lt_of_lt_of_le h.lt.2 ht.size⟩⟩
  · refine ⟨?_, by rw [World.frozen?_setCell, ht.frozen (hl j) (hb j)]; exact (h.cell j hj).2⟩
    by_cases e : j = i
    · subst e
      rw [World.cell?_setCell_same _ _ _ (c1 j hj), upd_same]
    · rw [World.cell?_setCell_other _ _ _ _ (seat_ne h.ne hi hj (Ne.symm e)), c1 j hj, upd_other _ _ e]
  · by_cases e : j = i
    · subst e
      rw [upd_same, upd_same]
      exact ho.turned TS (fun q hq => nv q hq)
    · rw [upd_other _ _ e, upd_other _ _ e]
      exact ((h.own j hj).turned ht (fun q hq => h.apart j i hj hi e q hq)).turned TS (fun q hq => nb j q hj hq)
  · by_cases e : j = i
    · subst e
      rw [upd_same] at hq
      rcases hv q hq with hq | rfl
      · exact h.off j hj q hq
      · exact ⟨fun e => by have := h.lt.1; omega, fun e => by have := h.lt.2; omega, fun hs => by have := hS _ hs; omega, hB⟩
    · rw [upd_other _ _ e] at hq
      exact h.off j hj q hq
  · have lt := fun (m : Nat) (hm : m < 4) (q : Nat) (hq : blk (V m) q) => (h.own m hm).blk_lt q hq
    by_cases e : j = i
    · subst e
      rw [upd_same] at hq
      rw [upd_other _ _ (Ne.symm hjk)]
      rcases hv q hq with hq | rfl
      · exact h.apart j k hj hk hjk q hq
      · exact fun h' => by have := lt k hk _ h'; omega
    · rw [upd_other _ _ e] at hq
      by_cases e' : k = i
      · subst e'
        rw [upd_same]
        intro h'
        rcases hv q h' with h' | rfl
        · exact h.apart j k hj hk hjk q hq h'
        · have := lt j hj _ hq; omega
      · rw [upd_other _ _ e']
        exact h.apart j k hj hk hjk q hq
end Go.Proofs.YtjkmklbkemoldaaDoor
