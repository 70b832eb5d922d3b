/-
  The program's stream in memory: its sixteen cells, the four queues, and that these lie apart (Ends); what a step makes of it (Done).
-/
import Derived.Test.YtjkmklbkemoldaaDoorQueueTake
namespace Go.Proofs.YtjkmklbkemoldaaDoor
open Go.RowKit

theorem fset_ne {f : Nat → Value} {i j : Nat} {v : Value} (h : j ≠ i) : fset f i v j = f j := if_neg h
theorem fset_eq {f : Nat → Value} {i : Nat} {v : Value} : fset f i v i = v := if_pos rfl

/-- What an end has in memory: the queue of what is under way, and that of what has come. -/
structure SideV where
  U : Value
  p : Nat
  C : Value
  q : Nat

/-- The seven cells of an end, from o on. -/
structure SideCells (f : Nat → Value) (o : Nat) (v : SideV) (s : Side) : Prop where
  u : f o = v.U
  p : f (o + 1) = .int .i64 (v.p : Nat)
  c : f (o + 2) = v.C
  q : f (o + 3) = .int .i64 (v.q : Nat)
  sent : f (o + 4) = .int .i64 s.sent
  moved : f (o + 5) = .int .i64 s.moved
  stall : f (o + 6) = .bool s.stall

theorem SideCells.far {f : Nat → Value} {o i : Nat} {v : SideV} {s : Side} {u : Value} (h : SideCells f o v s) (hi : i < o ∨ o + 6 < i) : SideCells (fset f i u) o v s :=
  ⟨by rw [fset_ne (by omega)]; exact h.u, by rw [fset_ne (by omega)]; exact h.p, by rw [fset_ne (by omega)]; exact h.c, by rw [fset_ne (by omega)]; exact h.q, by rw [fset_ne (by omega)]; exact h.sent, by rw [fset_ne (by omega)]; exact h.moved, by rw [fset_ne (by omega)]; exact h.stall⟩
theorem SideCells.set_u {f : Nat → Value} {o : Nat} {v : SideV} {s : Side} (h : SideCells f o v s) (z : Value) : SideCells (fset f o z) o { v with U := z } s :=
  ⟨fset_eq, by rw [fset_ne (by omega)]; exact h.p, by rw [fset_ne (by omega)]; exact h.c, by rw [fset_ne (by omega)]; exact h.q, by rw [fset_ne (by omega)]; exact h.sent, by rw [fset_ne (by omega)]; exact h.moved, by rw [fset_ne (by omega)]; exact h.stall⟩
theorem SideCells.set_p {f : Nat → Value} {o : Nat} {v : SideV} {s : Side} (h : SideCells f o v s) (z : Nat) : SideCells (fset f (o + 1) (.int .i64 (z : Nat))) o { v with p := z } s :=
  ⟨by rw [fset_ne (by omega)]; exact h.u, fset_eq, by rw [fset_ne (by omega)]; exact h.c, by rw [fset_ne (by omega)]; exact h.q, by rw [fset_ne (by omega)]; exact h.sent, by rw [fset_ne (by omega)]; exact h.moved, by rw [fset_ne (by omega)]; exact h.stall⟩
theorem SideCells.set_c {f : Nat → Value} {o : Nat} {v : SideV} {s : Side} (h : SideCells f o v s) (z : Value) : SideCells (fset f (o + 2) z) o { v with C := z } s :=
  ⟨by rw [fset_ne (by omega)]; exact h.u, by rw [fset_ne (by omega)]; exact h.p, fset_eq, by rw [fset_ne (by omega)]; exact h.q, by rw [fset_ne (by omega)]; exact h.sent, by rw [fset_ne (by omega)]; exact h.moved, by rw [fset_ne (by omega)]; exact h.stall⟩
theorem SideCells.set_q {f : Nat → Value} {o : Nat} {v : SideV} {s : Side} (h : SideCells f o v s) (z : Nat) : SideCells (fset f (o + 3) (.int .i64 (z : Nat))) o { v with q := z } s :=
  ⟨by rw [fset_ne (by omega)]; exact h.u, by rw [fset_ne (by omega)]; exact h.p, by rw [fset_ne (by omega)]; exact h.c, fset_eq, by rw [fset_ne (by omega)]; exact h.sent, by rw [fset_ne (by omega)]; exact h.moved, by rw [fset_ne (by omega)]; exact h.stall⟩
theorem SideCells.set_sent {f : Nat → Value} {o : Nat} {v : SideV} {s : Side} (h : SideCells f o v s) (z : Int) : SideCells (fset f (o + 4) (.int .i64 z)) o v { s with sent := z } :=
  ⟨by rw [fset_ne (by omega)]; exact h.u, by rw [fset_ne (by omega)]; exact h.p, by rw [fset_ne (by omega)]; exact h.c, by rw [fset_ne (by omega)]; exact h.q, fset_eq, by rw [fset_ne (by omega)]; exact h.moved, by rw [fset_ne (by omega)]; exact h.stall⟩
theorem SideCells.set_moved {f : Nat → Value} {o : Nat} {v : SideV} {s : Side} (h : SideCells f o v s) (z : Int) : SideCells (fset f (o + 5) (.int .i64 z)) o v { s with moved := z } :=
  ⟨by rw [fset_ne (by omega)]; exact h.u, by rw [fset_ne (by omega)]; exact h.p, by rw [fset_ne (by omega)]; exact h.c, by rw [fset_ne (by omega)]; exact h.q, by rw [fset_ne (by omega)]; exact h.sent, fset_eq, by rw [fset_ne (by omega)]; exact h.stall⟩
theorem SideCells.set_stall {f : Nat → Value} {o : Nat} {v : SideV} {s : Side} (h : SideCells f o v s) (z : Bool) : SideCells (fset f (o + 6) (.bool z)) o v { s with stall := z } :=
  ⟨by rw [fset_ne (by omega)]; exact h.u, by rw [fset_ne (by omega)]; exact h.p, by rw [fset_ne (by omega)]; exact h.c, by rw [fset_ne (by omega)]; exact h.q, by rw [fset_ne (by omega)]; exact h.sent, by rw [fset_ne (by omega)]; exact h.moved, fset_eq⟩
/-- Its bytes alone are others. -/
theorem SideCells.same {f : Nat → Value} {o : Nat} {v : SideV} {s s' : Side} (h : SideCells f o v s) (h1 : s'.sent = s.sent) (h2 : s'.moved = s.moved) (h3 : s'.stall = s.stall) : SideCells f o v s' :=
  ⟨h.u, h.p, h.c, h.q, by rw [h1]; exact h.sent, by rw [h2]; exact h.moved, by rw [h3]; exact h.stall⟩

structure SideMem (w : World) (sb : Nat) (v : SideV) (s : Side) : Prop where
  und : Q w v.U v.p s.und
  come : Q w v.C v.q s.come
  read : s.read = wrap64 (s.moved - (s.come.length : Nat))
  nU : ∀ k, blk v.U k → k ≠ sb
  nC : ∀ k, blk v.C k → k ≠ sb
  ap : ∀ k, blk v.U k → ¬ blk v.C k

def sideBlk (v : SideV) (k : Nat) : Prop := blk v.U k ∨ blk v.C k
def ownBlk (sb : Nat) (x y : SideV) (k : Nat) : Prop := k = sb ∨ sideBlk x k ∨ sideBlk y k

theorem SideMem.turned {S : Nat → Prop} {w w' : World} {sb : Nat} {v : SideV} {s : Side} (h : SideMem w sb v s) (ht : Turned S w w') (hs : ∀ k, sideBlk v k → ¬ S k) : SideMem w' sb v s :=
  ⟨h.und.turned ht (fun k hk => hs k (.inl hk)), h.come.turned ht (fun k hk => hs k (.inr hk)), h.read, h.nU, h.nC, h.ap⟩
theorem SideMem.lt {w : World} {sb : Nat} {v : SideV} {s : Side} (h : SideMem w sb v s) : ∀ k, sideBlk v k → k < w.heap.size := fun k hk => hk.elim (h.und.lt k) (h.come.lt k)

/-- The stream at block sb: the end at ox, the other one at oo. -/
structure Ends (w : World) (sb : Nat) (f : Nat → Value) (ox oo : Nat) (x y : SideV) (s o : Side) (sh : Bool) : Prop where
  off : (ox = 1 ∧ oo = 8) ∨ (ox = 8 ∧ oo = 1)
  cells : Block w sb 16 f
  self : f 0 = .pointer (some ⟨sb, 0, none⟩)
  shut : f 15 = .bool sh
  cx : SideCells f ox x s
  cy : SideCells f oo y o
  mx : SideMem w sb x s
  my : SideMem w sb y o
  ap : ∀ k, sideBlk x k → ¬ sideBlk y k

section
variable {w w' : World} {sb ox oo : Nat} {f : Nat → Value} {x y : SideV} {s o : Side} {sh : Bool}
theorem Ends.swap (h : Ends w sb f ox oo x y s o sh) : Ends w sb f oo ox y x o s sh :=
  ⟨by rcases h.off with h | h; exact .inr ⟨h.2, h.1⟩; exact .inl ⟨h.2, h.1⟩, h.cells, h.self, h.shut, h.cy, h.cx, h.my, h.mx, fun k hy hx => h.ap k hx hy⟩
theorem Ends.sb_lt (h : Ends w sb f ox oo x y s o sh) : sb < w.heap.size := h.cells.lt (by omega)
theorem Ends.lt (h : Ends w sb f ox oo x y s o sh) : ∀ k, ownBlk sb x y k → k < w.heap.size := fun k hk => by
  rcases hk with rfl | hk | hk
  · exact h.sb_lt
  · exact h.mx.lt k hk
  · exact h.my.lt k hk
theorem Ends.turned {S : Nat → Prop} (h : Ends w sb f ox oo x y s o sh) (ht : Turned S w w') (hs : ∀ k, ownBlk sb x y k → ¬ S k) : Ends w' sb f ox oo x y s o sh :=
  ⟨h.off, h.cells.turned ht (hs sb (.inl rfl)), h.self, h.shut, h.cx, h.cy, h.mx.turned ht (fun k hk => hs k (.inr (.inl hk))), h.my.turned ht (fun k hk => hs k (.inr (.inr hk))), h.ap⟩
theorem Ends.fresh (h : Ends w sb f ox oo x y s o sh) (ht : Turned (fun _ => False) w w') : Ends w' sb f ox oo x y s o sh := h.turned ht (fun _ _ h => h)
theorem Ends.below (h : Ends w sb f ox oo x y s o sh) (hb : Below w.heap.size w w') : Ends w' sb f ox oo x y s o sh := h.fresh (Turned.ofBelow hb)

/-- The world w' has the stream with these ends; all that has turned is its own. -/
def Done (w : World) (sb ox oo : Nat) (x y : SideV) (w' : World) (s o : Side) (sh : Bool) : Prop :=
  ∃ f x' y', Ends w' sb f ox oo x' y' s o sh ∧ Turned (ownBlk sb x y) w w' ∧ ∀ k, ownBlk sb x' y' k → ownBlk sb x y k ∨ w.heap.size ≤ k

theorem Done.step {w1 w2 : World} {x' y' : SideV} (T : Turned (ownBlk sb x y) w w1) (hS : ∀ k, ownBlk sb x' y' k → ownBlk sb x y k ∨ w.heap.size ≤ k) (d : Done w1 sb ox oo x' y' w2 s o sh) : Done w sb ox oo x y w2 s o sh := by
  obtain ⟨f, x2, y2, hE, T2, hS2⟩ := d
  refine ⟨f, x2, y2, hE, T.trans T2 hS, fun k hk => (hS2 k hk).elim (hS k) (fun h => .inr (Nat.le_trans T.size h))⟩
theorem Done.fresh {w1 w2 : World} (T : Turned (fun _ => False) w w1) (d : Done w1 sb ox oo x y w2 s o sh) : Done w sb ox oo x y w2 s o sh := d.step (T.mono (fun _ h => h.elim)) (fun _ h => .inl h)
theorem ownBlk_swap {k : Nat} (h : ownBlk sb x y k) : ownBlk sb y x k := by
  rcases h with h | h | h
  · exact .inl h
  · exact .inr (.inr h)
  · exact .inr (.inl h)
theorem Done.swap {w1 : World} (d : Done w sb ox oo x y w1 s o sh) : Done w sb oo ox y x w1 o s sh := by
  obtain ⟨f, x2, y2, hE, T2, hS2⟩ := d
  exact ⟨f, y2, x2, hE.swap, T2.mono (fun k h => .inl (ownBlk_swap h)), fun k hk => (hS2 k (ownBlk_swap hk)).imp ownBlk_swap id⟩
end
end Go.Proofs.YtjkmklbkemoldaaDoor
