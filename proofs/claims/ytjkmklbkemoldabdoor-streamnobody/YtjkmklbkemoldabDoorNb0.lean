/-
  The program's stream alone: which state it has, what each call makes of a state, what is asked of it.
-/
import Derived.Test.YtjkmklbkemoldabDoorRefused
import Derived.Test.YtjkmklbkemoldabDoorBytes
import Derived.Deep.RegionHeld3
import Derived.Deep.RegionLaw
import Derived.Deep.DeepCutAuto
import Derived.Laws.BytesArg
namespace Go.Proofs.YtjkmklbkemoldabDoor
open Go.RowKit

/-- What an end has. -/
structure Side where
  und : List Int
  come : List Int
  sent : Int
  moved : Int
  read : Int
  stall : Bool
/-- What a stream has. -/
structure St where
  a : Side
  b : Side
  shut : Bool
theorem Tryd.bytes : ByteTypes Tryd.prog 22 5 := by
  refine ⟨Tryd.underlying22, ?_⟩
  have h : (Tryd.prog.info? 5).map (fun i => (i.zero, i.size, i.bytes)) = some (some (.int .u8 0), 1, 1) := by kernel_rfl
  obtain ⟨i, hi, h0, h1, h2⟩ := info_parts h
  exact ⟨i, hi, h0, h1, h2⟩
/-- One link, in a block from B on, of layer stream at place 0 with number c. -/
def LinkOf (B : Nat) (w : World) (v : Value) (c : Int) : Prop := ∃ lb, B ≤ lb ∧ v = .slice (some ⟨lb, 0, none⟩) 1 1 ∧ w.cell? ⟨lb, 0, none⟩ = some (.string ⟨#[115, 116, 114, 101, 97, 109]⟩) ∧ w.cell? ⟨lb, 1, none⟩ = some (.int .i64 0) ∧ w.cell? ⟨lb, 2, none⟩ = some (.int .i64 c)
/-- The beginning of a slice. -/
theorem Sl.take {w : World} {a : Option Addr} {cap n : Nat} {zs : List Int} (h : Sl w (.slice a zs.length cap) zs) (hn : n ≤ zs.length) : Sl w (.slice a n cap) (zs.take n) := by
  have hl : (zs.take n).length = n := by simp; omega
  rcases h with ⟨h1, rfl⟩ | ⟨a', h1, rfl⟩ | ⟨g, off, cap', h1, h2, h3, h4⟩
  · cases h1
    have : n = 0 := by simpa using hn
    subst this
    exact .inl ⟨rfl, rfl⟩
  · cases h1
    have : n = 0 := by simpa using hn
    subst this
    exact .inr (.inl ⟨a', rfl, rfl⟩)
  · cases h1
    refine .inr (.inr ⟨g, off, cap, by rw [hl], by rw [hl]; omega, h3, fun j hj => ?_⟩)
    rw [hl] at hj
    rw [h4 j (by omega), List.getElem_take]
/-- The rest of a slice. -/
theorem Sl.drop {w : World} {a : Option Addr} {cap n : Nat} {zs : List Int} (h : Sl w (.slice a zs.length cap) zs) (hn : n ≤ zs.length) : Sl w (.slice (if cap = n then a else a.map (·.add n)) (zs.length - n) (cap - n)) (zs.drop n) := by
  rcases h with ⟨h1, rfl⟩ | ⟨a', h1, rfl⟩ | ⟨g, off, cap', h1, h2, h3, h4⟩
  · cases h1
    have : n = 0 := by simpa using hn
    subst this
    exact .inl ⟨by simp, rfl⟩
  · cases h1
    have : n = 0 := by simpa using hn
    subst this
    exact .inr (.inl ⟨a', by simp, rfl⟩)
  · cases h1
    by_cases hc : cap = n
    · rw [if_pos hc]
      refine .inr (.inr ⟨g, off, cap - n, by simp, by simp; omega, by omega, fun j hj => ?_⟩)
      simp at hj; omega
    · rw [if_neg hc]
      refine .inr (.inr ⟨g, off + n, cap - n, by simp [Addr.add_lit], by simp; omega, by omega, fun j hj => ?_⟩)
      rw [List.getElem_drop, ← h4 (n + j) (by simp at hj; omega), Nat.add_assoc]
theorem belowCells {W w1 : World} (hb : Below W.heap.size W w1) : (∀ b o, b < W.heap.size → w1.cell? ⟨b, o, none⟩ = W.cell? ⟨b, o, none⟩) ∧ (∀ b o, b < W.heap.size → w1.frozen? ⟨b, o, none⟩ = W.frozen? ⟨b, o, none⟩) :=
  ⟨fun b o h => hb.cell (p := ⟨b, o, none⟩) h, fun b o h => hb.frozen (p := ⟨b, o, none⟩) h⟩
def bad (e : Int) : Bool := !(e == 0) && !(e == 1)
def St.at (st : St) (e : Int) : Side := if e = 0 then st.a else st.b
def St.other (st : St) (e : Int) : Side := if e = 0 then st.b else st.a
def St.up (st : St) (e : Int) (s : Side) : St := if e = 0 then { st with a := s } else { st with b := s }
/-- Both ends: that of e, and the other one. -/
def St.both (st : St) (e : Int) (s o : Side) : St := if e = 0 then { st with a := s, b := o } else { st with a := o, b := s }
def St.fresh : St := ⟨⟨[], [], 0, 0, 0, false⟩, ⟨[], [], 0, 0, 0, false⟩, false⟩
/-- The bounds that every stream keeps. -/
structure St.Ok (st : St) : Prop where
  ua : st.a.und.length ≤ 4194304
  ub : st.b.und.length ≤ 4194304
  ca : st.a.come.length ≤ 8388608
  cb : st.b.come.length ≤ 8388608
  oa : st.shut = false → st.a.come.length ≤ 4194304
  ob : st.shut = false → st.b.come.length ≤ 4194304
def St.send (st : St) (e : Int) (bs : List Int) : Option Int × St :=
  if bad e = true then (some 2, st) else if st.shut = true then (some 100, st) else if 4194304 < ((st.at e).und.length : Int) + bs.length then (some 4, st)
  else (none, st.up e { st.at e with und := (st.at e).und ++ bs, sent := wrap64 ((st.at e).sent + bs.length) })
def St.mv (st : St) (e : Int) (n : Nat) : St :=
  st.both e { st.at e with und := (st.at e).und.drop n } { st.other e with come := (st.other e).come ++ (st.at e).und.take n, moved := wrap64 ((st.other e).moved + n) }
def St.move (st : St) (e n : Int) : Option Int × St :=
  if bad e = true then (some 2, st) else if st.shut = true then (some 100, st) else if n < 0 then (some 1, st) else if (st.at e).stall = true then (some 101, st)
  else if ((st.at e).und.length : Int) < n then (some 102, st) else if 4194304 < ((st.other e).come.length : Int) + n then (some 5, st) else (none, st.mv e n.toNat)
def St.stall (st : St) (e : Int) (y : Bool) : Option Int × St :=
  if bad e = true then (some 2, st) else if st.shut = true then (some 100, st) else (none, st.up e { st.at e with stall := y })
def St.cut (st : St) : St := { a := { st.a with und := [] }, b := { st.b with und := [] }, shut := true }
def St.break (st : St) : Option Int × St := if st.shut = true then (some 100, st) else (none, st.cut)
def St.close (st : St) (e : Int) : Option Int × St :=
  if bad e = true then (some 2, st) else if st.shut = true then (some 100, st) else (none, (st.mv e (st.at e).und.length).cut)
/-- How many bytes a Read takes. -/
def St.takes (st : St) (e m : Int) : Nat := if m < ((st.at e).come.length : Int) then m.toNat else (st.at e).come.length
def St.read (st : St) (e m : Int) : Option Int × List Int × St :=
  if bad e = true then (some 2, [], st) else if m < 0 then (some 1, [], st) else if st.shut = true ∧ (st.at e).come = [] then (some 8, [], st)
  else (none, (st.at e).come.take (st.takes e m), st.up e { st.at e with come := (st.at e).come.drop (st.takes e m), read := wrap64 ((st.at e).read + st.takes e m) })
def St.pipe (st : St) (e : Int) : Value :=
  if bad e = true then .agg #[.int .i64 0, .int .i64 0, .int .i64 0, .int .i64 0, .int .i64 0, .bool false, .bool false]
  else .agg #[.int .i64 (st.at e).und.length, .int .i64 (st.at e).come.length, .int .i64 (st.at e).sent, .int .i64 (st.at e).moved, .int .i64 (st.at e).read, .bool (st.at e).stall, .bool st.shut]
def St.stateErr (e : Int) : Option Int := if bad e = true then some 2 else none
/-- The links that the document tells. -/
def Links (B : Nat) (w : World) (v : Value) : Option Int → Prop
  | none => v = .slice none 0 0
  | some c => LinkOf B w v c
theorem Links.turned {B : Nat} {w w' : World} {v : Value} {oc : Option Int} {S : Nat → Prop} (h : Links B w v oc) (ht : Turned S w w') (hs : ∀ k, B ≤ k → ¬ S k) : Links B w' v oc := by
  cases oc with
  | none => exact h
  | some c => obtain ⟨lb, h0, rfl, h1, h2, h3⟩ := h; exact ⟨lb, h0, rfl, ht.cell h1 (hs lb h0), ht.cell h2 (hs lb h0), ht.cell h3 (hs lb h0)⟩
theorem bad0 : bad 0 = false := rfl
theorem bad1 : bad 1 = false := rfl
theorem bad_no {e : Int} (h : bad e = true) : (e == 0) = false ∧ (e == 1) = false := by
  unfold bad at h; simp at h; exact ⟨by simp [h.1], by simp [h.2]⟩
theorem bad_yes {e : Int} (h : ¬ bad e = true) : e = 0 ∨ e = 1 := by
  unfold bad at h; simp at h; by_cases h0 : e = 0
  · exact .inl h0
  · exact .inr (h h0)
theorem St.Ok.fresh : St.fresh.Ok := ⟨by simp [St.fresh], by simp [St.fresh], by simp [St.fresh], by simp [St.fresh], fun _ => by simp [St.fresh], fun _ => by simp [St.fresh]⟩
/-- v is a fault, in a block from B on, of layer stream at place 0 with number c and nothing under it. -/
def FaultOf (B : Nat) (w : World) (v : Value) (c : Int) : Prop := ∃ pb, B ≤ pb ∧ v = .iface 71 (.pointer (some ⟨pb, 0, none⟩)) ∧ w.cell? ⟨pb, 0, none⟩ = some (.string ⟨#[115, 116, 114, 101, 97, 109]⟩) ∧ w.cell? ⟨pb, 1, none⟩ = some (.int .i64 0) ∧ w.cell? ⟨pb, 2, none⟩ = some (.int .i64 c) ∧ w.cell? ⟨pb, 3, none⟩ = some .nilIface
/-- The error that the program tells. -/
def Errs (B : Nat) (w : World) (v : Value) : Option Int → Prop
  | none => v = .nilIface
  | some c => FaultOf B w v c
theorem Errs.turned {B : Nat} {w w' : World} {v : Value} {oc : Option Int} {S : Nat → Prop} (h : Errs B w v oc) (ht : Turned S w w') (hs : ∀ k, B ≤ k → k < w.heap.size → ¬ S k) : Errs B w' v oc := by
  cases oc with
  | none => exact h
  | some c =>
    obtain ⟨pb, h0, rfl, h1, h2, h3, h4⟩ := h
    have hp := hs pb h0 (World.block_lt_of_cell? w _ h1)
    exact ⟨pb, h0, rfl, ht.cell h1 hp, ht.cell h2 hp, ht.cell h3 hp, ht.cell h4 hp⟩
/-- Of no bytes nothing can turn. -/
theorem Sl.turnedN {S : Nat → Prop} {w w' : World} {v : Value} {zs : List Int} (h : Sl w v zs) (ht : Turned S w w') (hs : zs ≠ [] → ∀ k, blk v k → ¬ S k) : Sl w' v zs := by
  cases zs with
  | nil =>
    rcases h with h | h | ⟨g, off, cap, h1, h2, h3, _⟩
    · exact .inl h
    · exact .inr (.inl h)
    · exact .inr (.inr ⟨g, off, cap, h1, h2, h3, fun j hj => absurd hj (Nat.not_lt_zero j)⟩)
  | cons z r => exact h.turned ht (hs (by simp))
/-- A slice that has a byte lies in a block that is there. -/
theorem Sl.lt {w : World} {v : Value} {zs : List Int} (h : Sl w v zs) (hne : zs ≠ []) : ∀ k, blk v k → k < w.heap.size := by
  rcases h with ⟨_, h⟩ | ⟨_, _, h⟩ | ⟨g, off, cap, rfl, _, _, h4⟩
  · exact absurd h hne
  · exact absurd h hne
  · intro k hk
    have hk : g = k := hk
    subst hk
    have h0 : 0 < zs.length := List.length_pos_iff.2 hne
    exact World.block_lt_of_cell? w _ (h4 0 h0)
/-- The program's stream. Mem w sb S st: in w the stream at block sb has the state st, and lies in the blocks of S. -/
structure Impl (Mem : World → Nat → (Nat → Prop) → St → Prop) : Prop where
  lt : ∀ {w : World} {sb : Nat} {S : Nat → Prop} {st : St}, Mem w sb S st → ∀ k, S k → k < w.heap.size
  turned : ∀ {w w' : World} {sb : Nat} {S T : Nat → Prop} {st : St}, Mem w sb S st → Turned T w w' → (∀ k, S k → ¬ T k) → Mem w' sb S st
  new : ∀ w : World, Calls Tryd.prog 29 #[] w fun ev w' => ∃ sb S, ev = .returned (.pointer (some ⟨sb, 0, none⟩)) ∧ Mem w' sb S St.fresh ∧ Below w.heap.size w w' ∧ ∀ k, S k → w.heap.size ≤ k
  send : ∀ {w : World} {sb : Nat} {S : Nat → Prop} {st : St}, Mem w sb S st → st.Ok → ∀ (e : Int) {x : Value} {bs : List Int}, Sl w x bs → bs.length ≤ 140737488355328 → (bs ≠ [] → ∀ k, blk x k → ¬ S k) →
    Calls Tryd.prog 8 #[.pointer (some ⟨sb, 0, none⟩), .int .i64 e, x] w fun ev w' => ∃ v S', ev = .returned v ∧ Errs w.heap.size w' v (st.send e bs).1 ∧ Mem w' sb S' (st.send e bs).2 ∧ Turned S w w' ∧ ∀ k, S' k → S k ∨ w.heap.size ≤ k
  move : ∀ {w : World} {sb : Nat} {S : Nat → Prop} {st : St}, Mem w sb S st → st.Ok → ∀ (e m : Int),
    Calls Tryd.prog 9 #[.pointer (some ⟨sb, 0, none⟩), .int .i64 e, .int .i64 m] w fun ev w' => ∃ v S', ev = .returned v ∧ Errs w.heap.size w' v (st.move e m).1 ∧ Mem w' sb S' (st.move e m).2 ∧ Turned S w w' ∧ ∀ k, S' k → S k ∨ w.heap.size ≤ k
  stall : ∀ {w : World} {sb : Nat} {S : Nat → Prop} {st : St}, Mem w sb S st → st.Ok → ∀ (e : Int) (y : Bool),
    Calls Tryd.prog 10 #[.pointer (some ⟨sb, 0, none⟩), .int .i64 e, .bool y] w fun ev w' => ∃ v S', ev = .returned v ∧ Errs w.heap.size w' v (st.stall e y).1 ∧ Mem w' sb S' (st.stall e y).2 ∧ Turned S w w' ∧ ∀ k, S' k → S k ∨ w.heap.size ≤ k
  brk : ∀ {w : World} {sb : Nat} {S : Nat → Prop} {st : St}, Mem w sb S st → st.Ok →
    Calls Tryd.prog 11 #[.pointer (some ⟨sb, 0, none⟩)] w fun ev w' => ∃ v S', ev = .returned v ∧ Errs w.heap.size w' v (st.break).1 ∧ Mem w' sb S' (st.break).2 ∧ Turned S w w' ∧ ∀ k, S' k → S k ∨ w.heap.size ≤ k
  close : ∀ {w : World} {sb : Nat} {S : Nat → Prop} {st : St}, Mem w sb S st → st.Ok → ∀ (e : Int),
    Calls Tryd.prog 12 #[.pointer (some ⟨sb, 0, none⟩), .int .i64 e] w fun ev w' => ∃ v S', ev = .returned v ∧ Errs w.heap.size w' v (st.close e).1 ∧ Mem w' sb S' (st.close e).2 ∧ Turned S w w' ∧ ∀ k, S' k → S k ∨ w.heap.size ≤ k
  read : ∀ {w : World} {sb : Nat} {S : Nat → Prop} {st : St}, Mem w sb S st → st.Ok → ∀ (e m : Int),
    Calls Tryd.prog 5 #[.pointer (some ⟨sb, 0, none⟩), .int .i64 e, .int .i64 m] w fun ev w' => ∃ V v S', ev = .returned (.tuple #[V, v]) ∧ Errs w.heap.size w' v (st.read e m).1 ∧ Sl w' V (st.read e m).2.1 ∧ Mem w' sb S' (st.read e m).2.2 ∧ Turned S w w' ∧ (∀ k, S' k → S k ∨ w.heap.size ≤ k) ∧ ∀ k, blk V k → w.heap.size ≤ k ∧ k < w'.heap.size ∧ ¬ S' k
  state : ∀ {w : World} {sb : Nat} {S : Nat → Prop} {st : St}, Mem w sb S st → st.Ok → ∀ (e : Int),
    Calls Tryd.prog 6 #[.pointer (some ⟨sb, 0, none⟩), .int .i64 e] w fun ev w' => ∃ v, ev = .returned (.tuple #[st.pipe e, v]) ∧ Errs w.heap.size w' v (St.stateErr e) ∧ Below w.heap.size w w'
/-- The variable errors.errorType. -/
def Er (w : World) : Prop := w.cell? ⟨0, 0, none⟩ = some (.iface 94 (.agg #[.pointer (some ⟨1, 38, none⟩)]))
theorem Er.turned {S : Nat → Prop} {w w' : World} (h : Er w) (ht : Turned S w w') (hs : ¬ S 0) : Er w' := ht.cell h hs
theorem Er.below {w w' : World} (h : Er w) (hb : Below w.heap.size w w') : Er w' := (hb.cell (p := ⟨0, 0, none⟩) (World.block_lt_of_cell? w _ h)).trans h
/-- Refused of what both tell. -/
theorem refused_both {B B' : Nat} {w : World} {v l : Value} {oc : Option Int} (her : Er w) (he : Errs B w v oc) (hl : Links B' w l oc) :
    Calls Tryd.prog 7 #[v, l] w fun ev w' => ev = .returned (.bool true) ∧ Below w.heap.size w w' := by
  cases oc with
  | none =>
    have hv : v = .nilIface := he
    have hl' : l = .slice none 0 0 := hl
    subst hv hl'
    refine (refused_nil w none 0).mono ?_
    rintro ev w' ⟨rfl, rfl⟩
    exact ⟨rfl, Below.refl _ _⟩
  | some c =>
    obtain ⟨pb, _, rfl, h1, h2, h3, h4⟩ := he
    obtain ⟨lb, _, rfl, l1, l2, l3⟩ := hl
    exact refused_fault pb 0 lb 1 _ _ _ w her h1 h2 h3 h4 l1 l2 l3
/-- .. and what Read hands out may be written. -/
structure ImplOwn (Mem : World → Nat → (Nat → Prop) → St → Prop) : Prop extends Impl Mem where
  readOwn : ∀ {w : World} {sb : Nat} {S : Nat → Prop} {st : St}, Mem w sb S st → st.Ok → ∀ (e m : Int),
    Calls Tryd.prog 5 #[.pointer (some ⟨sb, 0, none⟩), .int .i64 e, .int .i64 m] w fun ev w' => ∃ V v S', ev = .returned (.tuple #[V, v]) ∧ Errs w.heap.size w' v (st.read e m).1 ∧ Own w' V (st.read e m).2.1 ∧ Mem w' sb S' (st.read e m).2.2 ∧ Turned S w w' ∧ (∀ k, S' k → S k ∨ w.heap.size ≤ k) ∧ ∀ k, blk V k → w.heap.size ≤ k ∧ k < w'.heap.size ∧ ¬ S' k
theorem Sl.str {w : World} {v : Value} {zs : List Int} (h : Sl w v zs) : (convert 22 9 v).run Tryd.prog w = .ok (.string (strOfNums zs)) w := by
  rcases h with ⟨rfl, rfl⟩ | ⟨a, rfl, rfl⟩ | ⟨g, off, cap, rfl, _, _, h4⟩
  · exact run_convert_bytes_nil w _ _ Tryd.underlying22 Tryd.underlying5 0 0 _ Tryd.underlying9
  · rw [run_convert_bytes_string w _ _ _ _ _ _ Tryd.underlying22 Tryd.underlying5 Tryd.underlying9]
    have hl : (loadCells a 0).run Tryd.prog w = .ok #[] w := by simpa using run_loadCells_list (P := Tryd.prog) w a [] (fun j v hj => by simp at hj)
    simp [Conv.bytesToString, strOfNums, hl]
    rfl
  · exact run_convert_bytes_arg w _ _ Tryd.underlying22 Tryd.underlying5 g off zs.length cap zs rfl (fun i hi => by rw [h4 i hi]; simp [List.getD, List.getElem?_eq_getElem hi]) _ Tryd.underlying9
end Go.Proofs.YtjkmklbkemoldabDoor
