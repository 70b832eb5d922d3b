/-
  What is asked of the program's stream (Impl): that it answers each call as Spec says, and touches its own memory alone. The program's stream and the document's side by side (Pair).
-/
import Derived.Test.YtjkmklbkemoldaaDoorRefDoc2
namespace Go.Proofs.YtjkmklbkemoldaaDoor
open Go.RowKit

/-- v is a fault, in a block from B on, of layer stream at place 0 with number c and nothing under it. -/
def FaultOf (B : Nat) (w : World) (v : Value) (c : Int) : Prop := ∃ pb, B ≤ pb ∧ v = .iface 98 (.pointer (some ⟨pb, 0, none⟩)) ∧ w.cell? ⟨pb, 0, none⟩ = some (.string ⟨#[115, 116, 114, 101, 97, 109]⟩) ∧ w.cell? ⟨pb, 1, none⟩ = some (.int .i64 0) ∧ w.cell? ⟨pb, 2, none⟩ = some (.int .i64 c) ∧ w.cell? ⟨pb, 3, none⟩ = some .nilIface
/-- The error that the program tells. -/
def Errs (B : Nat) (w : World) (v : Value) : Option Int → Prop
  | none => v = .nilIface
  | some c => FaultOf B w v c

theorem Errs.turned {B : Nat} {w w' : World} {v : Value} {oc : Option Int} {S : Nat → Prop} (h : Errs B w v oc) (ht : Turned S w w') (hs : ∀ k, B ≤ k → k < w.heap.size → ¬ S k) : Errs B w' v oc := by
  cases oc with
  | none => exact h
  | some c =>
    obtain ⟨pb, h0, rfl, h1, h2, h3, h4⟩ := h
    have hp := hs pb h0 (World.block_lt_of_cell? w _ h1)
    exact ⟨pb, h0, rfl, ht.cell h1 hp, ht.cell h2 hp, ht.cell h3 hp, ht.cell h4 hp⟩

/-- Of no bytes nothing can turn. -/
theorem Sl.turnedN {S : Nat → Prop} {w w' : World} {v : Value} {zs : List Int} (h : Sl w v zs) (ht : Turned S w w') (hs : zs ≠ [] → ∀ k, blk v k → ¬ S k) : Sl w' v zs := by
  cases zs with
  | nil =>
    rcases h with h | h | ⟨g, off, cap, h1, h2, h3, _⟩
    · exact .inl h
    · exact .inr (.inl h)
    · exact .inr (.inr ⟨g, off, cap, h1, h2, h3, fun j hj => absurd hj (Nat.not_lt_zero j)⟩)
  | cons z r => exact h.turned ht (hs (by simp))
/-- A slice that has a byte lies in a block that is there. -/
theorem Sl.lt {w : World} {v : Value} {zs : List Int} (h : Sl w v zs) (hne : zs ≠ []) : ∀ k, blk v k → k < w.heap.size := by
  rcases h with ⟨_, h⟩ | ⟨_, _, h⟩ | ⟨g, off, cap, rfl, _, _, h4⟩
  · exact absurd h hne
  · exact absurd h hne
  · intro k hk
    have hk : g = k := hk
    subst hk
    have h0 : 0 < zs.length := List.length_pos_iff.2 hne
    exact World.block_lt_of_cell? w _ (h4 0 h0)

/-- The program's stream. Mem w sb S st: in w the stream at block sb has the state st, and lies in the blocks of S. -/
structure Impl (Mem : World → Nat → (Nat → Prop) → St → Prop) : Prop where
  lt : ∀ {w : World} {sb : Nat} {S : Nat → Prop} {st : St}, Mem w sb S st → ∀ k, S k → k < w.heap.size
  turned : ∀ {w w' : World} {sb : Nat} {S T : Nat → Prop} {st : St}, Mem w sb S st → Turned T w w' → (∀ k, S k → ¬ T k) → Mem w' sb S st
  new : ∀ w : World, Calls Tryd.prog 9 #[] w fun ev w' => ∃ sb S, ev = .returned (.pointer (some ⟨sb, 0, none⟩)) ∧ Mem w' sb S St.fresh ∧ Below w.heap.size w w' ∧ ∀ k, S k → w.heap.size ≤ k
  send : ∀ {w : World} {sb : Nat} {S : Nat → Prop} {st : St}, Mem w sb S st → st.Ok → ∀ (e : Int) {x : Value} {bs : List Int}, Sl w x bs → bs.length ≤ 140737488355328 → (bs ≠ [] → ∀ k, blk x k → ¬ S k) →
    Calls Tryd.prog 14 #[.pointer (some ⟨sb, 0, none⟩), .int .i64 e, x] w fun ev w' => ∃ v S', ev = .returned v ∧ Errs w.heap.size w' v (st.send e bs).1 ∧ Mem w' sb S' (st.send e bs).2 ∧ Turned S w w' ∧ ∀ k, S' k → S k ∨ w.heap.size ≤ k
  move : ∀ {w : World} {sb : Nat} {S : Nat → Prop} {st : St}, Mem w sb S st → st.Ok → ∀ (e m : Int),
    Calls Tryd.prog 15 #[.pointer (some ⟨sb, 0, none⟩), .int .i64 e, .int .i64 m] w fun ev w' => ∃ v S', ev = .returned v ∧ Errs w.heap.size w' v (st.move e m).1 ∧ Mem w' sb S' (st.move e m).2 ∧ Turned S w w' ∧ ∀ k, S' k → S k ∨ w.heap.size ≤ k
  stall : ∀ {w : World} {sb : Nat} {S : Nat → Prop} {st : St}, Mem w sb S st → st.Ok → ∀ (e : Int) (y : Bool),
    Calls Tryd.prog 16 #[.pointer (some ⟨sb, 0, none⟩), .int .i64 e, .bool y] w fun ev w' => ∃ v S', ev = .returned v ∧ Errs w.heap.size w' v (st.stall e y).1 ∧ Mem w' sb S' (st.stall e y).2 ∧ Turned S w w' ∧ ∀ k, S' k → S k ∨ w.heap.size ≤ k
  brk : ∀ {w : World} {sb : Nat} {S : Nat → Prop} {st : St}, Mem w sb S st → st.Ok →
    Calls Tryd.prog 18 #[.pointer (some ⟨sb, 0, none⟩)] w fun ev w' => ∃ v S', ev = .returned v ∧ Errs w.heap.size w' v (st.break).1 ∧ Mem w' sb S' (st.break).2 ∧ Turned S w w' ∧ ∀ k, S' k → S k ∨ w.heap.size ≤ k
  close : ∀ {w : World} {sb : Nat} {S : Nat → Prop} {st : St}, Mem w sb S st → st.Ok → ∀ (e : Int),
    Calls Tryd.prog 19 #[.pointer (some ⟨sb, 0, none⟩), .int .i64 e] w fun ev w' => ∃ v S', ev = .returned v ∧ Errs w.heap.size w' v (st.close e).1 ∧ Mem w' sb S' (st.close e).2 ∧ Turned S w w' ∧ ∀ k, S' k → S k ∨ w.heap.size ≤ k
  read : ∀ {w : World} {sb : Nat} {S : Nat → Prop} {st : St}, Mem w sb S st → st.Ok → ∀ (e m : Int),
    Calls Tryd.prog 17 #[.pointer (some ⟨sb, 0, none⟩), .int .i64 e, .int .i64 m] w fun ev w' => ∃ V v S', ev = .returned (.tuple #[V, v]) ∧ Errs w.heap.size w' v (st.read e m).1 ∧ Sl w' V (st.read e m).2.1 ∧ Mem w' sb S' (st.read e m).2.2 ∧ Turned S w w' ∧ (∀ k, S' k → S k ∨ w.heap.size ≤ k) ∧ ∀ k, blk V k → w.heap.size ≤ k ∧ k < w'.heap.size ∧ ¬ S' k
  state : ∀ {w : World} {sb : Nat} {S : Nat → Prop} {st : St}, Mem w sb S st → st.Ok → ∀ (e : Int),
    Calls Tryd.prog 20 #[.pointer (some ⟨sb, 0, none⟩), .int .i64 e] w fun ev w' => ∃ v, ev = .returned (.tuple #[st.pipe e, v]) ∧ Errs w.heap.size w' v (St.stateErr e) ∧ Below w.heap.size w w'

/-- The variable errors.errorType. -/
def Er (w : World) : Prop := w.cell? ⟨0, 0, none⟩ = some (.iface 119 (.agg #[.pointer (some ⟨1, 36, none⟩)]))
theorem Er.turned {S : Nat → Prop} {w w' : World} (h : Er w) (ht : Turned S w w') (hs : ¬ S 0) : Er w' := ht.cell h hs
theorem Er.below {w w' : World} (h : Er w) (hb : Below w.heap.size w w') : Er w' := (hb.cell (p := ⟨0, 0, none⟩) (World.block_lt_of_cell? w _ h)).trans h

/-- Refused of what both tell. -/
theorem refused_both {B B' : Nat} {w : World} {v l : Value} {oc : Option Int} (her : Er w) (he : Errs B w v oc) (hl : Links B' w l oc) :
    Calls Tryd.prog 21 #[v, l] w fun ev w' => ev = .returned (.bool true) ∧ Below w.heap.size w w' := by
  cases oc with
  | none =>
    have hv : v = .nilIface := he
    have hl' : l = .slice none 0 0 := hl
    subst hv hl'
    refine (refused_nil w none 0).mono ?_
    rintro ev w' ⟨rfl, rfl⟩
    exact ⟨rfl, Below.refl _ _⟩
  | some c =>
    obtain ⟨pb, _, rfl, h1, h2, h3, h4⟩ := he
    obtain ⟨lb, _, rfl, l1, l2, l3⟩ := hl
    exact refused_fault pb 0 lb 1 _ _ _ w her h1 h2 h3 h4 l1 l2 l3

/-- Both streams, in one state; all that is theirs lies from B on. -/
structure Pair (Mem : World → Nat → (Nat → Prop) → St → Prop) (B : Nat) (w : World) (sb g : Nat) (S R : Nat → Prop) (st : St) : Prop where
  mem : Mem w sb S st
  ref : RefAt w g R st
  ok : st.Ok
  dis : ∀ k, S k → ¬ R k
  bS : ∀ k, S k → B ≤ k
  bg : B ≤ g
  er : Er w
  erB : 0 < B
  big : B ≤ w.heap.size

theorem RefAt.own {w : World} {g : Nat} {R : Nat → Prop} {st : St} (h : RefAt w g R st) : R g ∧ ∀ k, R k → k < w.heap.size := by
  obtain ⟨_, _, _, _, _, hg, _, _, _, _, hl⟩ := h
  exact ⟨hg, hl⟩

/-- Nothing of theirs has turned. -/
theorem Pair.below {Mem : World → Nat → (Nat → Prop) → St → Prop} (I : Impl Mem) {B : Nat} {w w' : World} {sb g : Nat} {S R : Nat → Prop} {st : St} (p : Pair Mem B w sb g S R st) (hb : Below w.heap.size w w') : Pair Mem B w' sb g S R st :=
  ⟨I.turned p.mem (Turned.ofBelow (S := fun _ => False) hb) (fun _ _ h => h), p.ref.turned (Turned.ofBelow (S := fun _ => False) hb) (fun _ _ h => h), p.ok, p.dis, p.bS, p.bg, p.er.below hb, p.erB, Nat.le_trans p.big hb.size⟩

/-- The program's call, then the document's, to one new state. -/
theorem Pair.next {Mem : World → Nat → (Nat → Prop) → St → Prop} (I : Impl Mem) {B : Nat} {w w1 w2 : World} {sb g : Nat} {S R S' : Nat → Prop} {st st' : St} (p : Pair Mem B w sb g S R st) (hok : st'.Ok)
    (m : Mem w1 sb S' st') (T : Turned S w w1) (hS : ∀ k, S' k → S k ∨ w.heap.size ≤ k) (r : RefAt w2 g (grow R w1 w2) st') (T2 : Turned (fun k => k = g) w1 w2) : Pair Mem B w2 sb g S' (grow R w1 w2) st' ∧ Below B w w2 := by
  obtain ⟨hg, hRl⟩ := p.ref.own
  have hSg : ∀ k, S' k → ¬ k = g := fun k hk he => by
    subst he
    rcases hS k hk with h | h
    · exact p.dis k h hg
    · have := hRl k hg; omega
  have hB : Below B w w2 := (T.below p.big p.bS).trans (T2.below (Nat.le_trans p.big T.size) (fun k hk => by subst hk; exact p.bg))
  refine ⟨⟨I.turned m T2 hSg, r, hok, fun k hk hr => ?_, fun k hk => ?_, p.bg, (p.er.turned T (fun h => by have := p.bS _ h; have := p.erB; omega)).turned T2 (fun h => by have := p.bg; have := p.erB; omega), p.erB, Nat.le_trans p.big hB.size⟩, hB⟩
  · rcases hr with hr | hr
    · rcases hS k hk with h | h
      · exact p.dis k h hr
      · have := hRl k hr; omega
    · have := I.lt m k hk; omega
  · rcases hS k hk with h | h
    · exact p.bS k h
    · have := p.big; omega
end Go.Proofs.YtjkmklbkemoldaaDoor
