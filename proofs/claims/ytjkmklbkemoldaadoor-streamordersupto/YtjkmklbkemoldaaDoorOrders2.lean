/-
  heddlelaw05.StreamOrders: what the loop keeps, and how each call carries it on.
-/
import Derived.Test.YtjkmklbkemoldaaDoorRowBase
import Derived.Test.YtjkmklbkemoldaaDoorOrders1
import Derived.Deep.DeepCutAuto
namespace Go.Proofs.YtjkmklbkemoldaaDoor
open Go.RowKit

/-- What the loop keeps. -/
structure Gone {Mem : World → Nat → (Nat → Prop) → St → Prop} (I : Impl Mem) (w : World) (sb gs gr : Nat) (j : Nat) (wr : World) (S : Nat → Prop) (st : St) (V : Nat → Value) (z : Nat → List Int) : Prop where
  mem : Mem wr sb S st
  ok : st.Ok
  trail : st.Trail (z 0) (z 1) (z 2) (z 3)
  four : Four wr w.heap.size gs gr S V z
  bS : ∀ q, S q → w.heap.size ≤ q
  l0 : (z 0).length ≤ j * 1048576
  l1 : (z 1).length ≤ j * 1048576
  below : Below w.heap.size w wr

theorem grown {n j : Nat} (h : n ≤ j * 1048576) : n ≤ (j + 1) * 1048576 := by rw [Nat.succ_mul]; exact Nat.le_trans h (Nat.le_add_right _ _)
theorem grown_by {n m j : Nat} (h : n ≤ j * 1048576) (hm : m ≤ 1048576) : n + m ≤ (j + 1) * 1048576 := by rw [Nat.succ_mul]; exact Nat.add_le_add h hm
theorem small_of {n j : Nat} (h : n ≤ j * 1048576) (hj : j ≤ 1048576) : n ≤ 1099511627776 := Nat.le_trans h (Nat.mul_le_mul_right 1048576 hj)

section
variable {Mem : World → Nat → (Nat → Prop) → St → Prop} {I : Impl Mem} {w : World} {sb gs gr j : Nat} {wr : World} {S : Nat → Prop} {st : St} {V : Nat → Value} {z : Nat → List Int}

theorem Gone.weaken (G : Gone I w sb gs gr j wr S st V z) : Gone I w sb gs gr (j + 1) wr S st V z :=
  ⟨G.mem, G.ok, G.trail, G.four, G.bS, grown G.l0, grown G.l1, G.below⟩
/-- Nothing old has turned. -/
theorem Gone.next (G : Gone I w sb gs gr j wr S st V z) {w' : World} (hb : Below wr.heap.size wr w') : Gone I w sb gs gr j w' S st V z :=
  ⟨I.turned G.mem (Turned.ofBelow (S := fun _ => False) hb) (fun _ _ h => h), G.ok, G.trail, G.four.below hb, G.bS, G.l0, G.l1, G.below.trans (hb.mono G.below.size)⟩
/-- The stream has answered a call. -/
theorem Gone.call (G : Gone I w sb gs gr j wr S st V z) {w' : World} {S' : Nat → Prop} {st' : St} (hm : Mem w' sb S' st') (ht : Turned S wr w') (hS : ∀ k, S' k → S k ∨ wr.heap.size ≤ k) (hok : st'.Ok) (htr : st'.Trail (z 0) (z 1) (z 2) (z 3)) : Gone I w sb gs gr j w' S' st' V z :=
  ⟨hm, hok, htr, G.four.turned ht hS, fun q hq => (hS q hq).elim (G.bS q) (fun h => Nat.le_trans G.below.size h), G.l0, G.l1, G.below.trans (ht.below G.below.size G.bS)⟩
/-- Slice i has been appended to, and its place written; the trail may have been off by it. -/
theorem four_gone {i : Nat} (hi : i < 4) {w1 : World} {v : Value} {ys : List Int} (hm : Mem wr sb S st) (hok : st.Ok) (F : Four wr w.heap.size gs gr S V z) (bS : ∀ q, S q → w.heap.size ≤ q) (B : Below w.heap.size w wr)
    (ho : Own w1 v ys) (ht : Turned (blk (V i)) wr w1) (hv : ∀ q, blk v q → blk (V i) q ∨ q = wr.heap.size)
    (htr : st.Trail (upd z i ys 0) (upd z i ys 1) (upd z i ys 2) (upd z i ys 3)) (h0 : (upd z i ys 0).length ≤ j * 1048576) (h1 : (upd z i ys 1).length ≤ j * 1048576) :
    Gone I w sb gs gr j (w1.setCell (seat gs gr i) v) S st (upd V i v) (upd z i ys) := by
  have hbS : ∀ q, blk (V i) q → w.heap.size ≤ q := fun q hq => (F.off i hi q hq).2.2.2
  have hgB : w.heap.size ≤ (seat gs gr i).block := (seat_block gs gr i).elim (fun e => by rw [e]; exact F.big.1) (fun e => by rw [e]; exact F.big.2)
  have hgS : ¬ S (seat gs gr i).block := (seat_block gs gr i).elim (fun e => by rw [e]; exact F.ns.1) (fun e => by rw [e]; exact F.ns.2)
  have TS := Turned.setCell w1 (seat gs gr i) v
  refine ⟨I.turned (I.turned hm ht (fun q hq hb => (F.off i hi q hb).2.2.1 hq)) TS (fun q hq he => hgS (by rw [← he]; exact hq)), hok, htr, F.put hi (I.lt hm) B.size ho ht hv, bS, h0, h1, (B.trans (ht.below B.size hbS)).trans (TS.below (Nat.le_trans B.size ht.size) (fun q he => by rw [he]; exact hgB))⟩
end
end Go.Proofs.YtjkmklbkemoldaaDoor
