/-
  What each call makes of a stream's state, and what it answers, in the document's words; what a stream's memory must do for it (Impl).
-/
import Derived.Test.YtjkmklbkemoldaaDoorRefState
import Derived.Test.YtjkmklbkemoldaaDoorRefRead
import Derived.Test.YtjkmklbkemoldaaDoorRefErr
namespace Go.Proofs.YtjkmklbkemoldaaDoor
open Go.RowKit

def bad (e : Int) : Bool := !(e == 0) && !(e == 1)
def St.at (st : St) (e : Int) : Side := if e = 0 then st.a else st.b
def St.other (st : St) (e : Int) : Side := if e = 0 then st.b else st.a
def St.up (st : St) (e : Int) (s : Side) : St := if e = 0 then { st with a := s } else { st with b := s }
/-- Both ends: that of e, and the other one. -/
def St.both (st : St) (e : Int) (s o : Side) : St := if e = 0 then { st with a := s, b := o } else { st with a := o, b := s }

def St.fresh : St := ⟨⟨[], [], 0, 0, 0, false⟩, ⟨[], [], 0, 0, 0, false⟩, false⟩
/-- The bounds that every stream keeps. -/
structure St.Ok (st : St) : Prop where
  ua : st.a.und.length ≤ 4194304
  ub : st.b.und.length ≤ 4194304
  ca : st.a.come.length ≤ 8388608
  cb : st.b.come.length ≤ 8388608
  oa : st.shut = false → st.a.come.length ≤ 4194304
  ob : st.shut = false → st.b.come.length ≤ 4194304

def St.send (st : St) (e : Int) (bs : List Int) : Option Int × St :=
  if bad e = true then (some 2, st) else if st.shut = true then (some 100, st) else if 4194304 < ((st.at e).und.length : Int) + bs.length then (some 4, st)
  else (none, st.up e { st.at e with und := (st.at e).und ++ bs, sent := wrap64 ((st.at e).sent + bs.length) })
def St.mv (st : St) (e : Int) (n : Nat) : St :=
  st.both e { st.at e with und := (st.at e).und.drop n } { st.other e with come := (st.other e).come ++ (st.at e).und.take n, moved := wrap64 ((st.other e).moved + n) }
def St.move (st : St) (e n : Int) : Option Int × St :=
  if bad e = true then (some 2, st) else if st.shut = true then (some 100, st) else if n < 0 then (some 1, st) else if (st.at e).stall = true then (some 101, st)
  else if ((st.at e).und.length : Int) < n then (some 102, st) else if 4194304 < ((st.other e).come.length : Int) + n then (some 5, st) else (none, st.mv e n.toNat)
def St.stall (st : St) (e : Int) (y : Bool) : Option Int × St :=
  if bad e = true then (some 2, st) else if st.shut = true then (some 100, st) else (none, st.up e { st.at e with stall := y })
def St.cut (st : St) : St := { a := { st.a with und := [] }, b := { st.b with und := [] }, shut := true }
def St.break (st : St) : Option Int × St := if st.shut = true then (some 100, st) else (none, st.cut)
def St.close (st : St) (e : Int) : Option Int × St :=
  if bad e = true then (some 2, st) else if st.shut = true then (some 100, st) else (none, (st.mv e (st.at e).und.length).cut)
/-- How many bytes a Read takes. -/
def St.takes (st : St) (e m : Int) : Nat := if m < ((st.at e).come.length : Int) then m.toNat else (st.at e).come.length
def St.read (st : St) (e m : Int) : Option Int × List Int × St :=
  if bad e = true then (some 2, [], st) else if m < 0 then (some 1, [], st) else if st.shut = true ∧ (st.at e).come = [] then (some 8, [], st)
  else (none, (st.at e).come.take (st.takes e m), st.up e { st.at e with come := (st.at e).come.drop (st.takes e m), read := wrap64 ((st.at e).read + st.takes e m) })
def St.pipe (st : St) (e : Int) : Value :=
  if bad e = true then .agg #[.int .i64 0, .int .i64 0, .int .i64 0, .int .i64 0, .int .i64 0, .bool false, .bool false]
  else .agg #[.int .i64 (st.at e).und.length, .int .i64 (st.at e).come.length, .int .i64 (st.at e).sent, .int .i64 (st.at e).moved, .int .i64 (st.at e).read, .bool (st.at e).stall, .bool st.shut]
def St.stateErr (e : Int) : Option Int := if bad e = true then some 2 else none

/-- The links that the document tells. -/
def Links (B : Nat) (w : World) (v : Value) : Option Int → Prop
  | none => v = .slice none 0 0
  | some c => LinkOf B w v c

theorem Links.turned {B : Nat} {w w' : World} {v : Value} {oc : Option Int} {S : Nat → Prop} (h : Links B w v oc) (ht : Turned S w w') (hs : ∀ k, B ≤ k → ¬ S k) : Links B w' v oc := by
  cases oc with
  | none => exact h
  | some c => obtain ⟨lb, h0, rfl, h1, h2, h3⟩ := h; exact ⟨lb, h0, rfl, ht.cell h1 (hs lb h0), ht.cell h2 (hs lb h0), ht.cell h3 (hs lb h0)⟩

theorem bad0 : bad 0 = false := rfl
theorem bad1 : bad 1 = false := rfl
theorem bad_no {e : Int} (h : bad e = true) : (e == 0) = false ∧ (e == 1) = false := by
  unfold bad at h; simp at h; exact ⟨by simp [h.1], by simp [h.2]⟩
theorem bad_yes {e : Int} (h : ¬ bad e = true) : e = 0 ∨ e = 1 := by
  unfold bad at h; simp at h; by_cases h0 : e = 0
  · exact .inl h0
  · exact .inr (h h0)
end Go.Proofs.YtjkmklbkemoldaaDoor
