/-
  Layer 6 (frame), of lists of bytes alone: numbers of bytes, frames, readers' states, splits.
-/
import Derived.WalkKit
namespace Go.Proofs.YtpbakejocjmkeaaDoor
open Go.RowKit

/-- Bytes. -/
def Rng (bs : List Int) : Prop := ∀ z ∈ bs, 0 ≤ z ∧ z < 256
theorem Rng.append {xs ys : List Int} (hx : Rng xs) (hy : Rng ys) : Rng (xs ++ ys) := fun z hz => (List.mem_append.1 hz).elim (hx z) (hy z)
theorem Rng.take {xs : List Int} (hx : Rng xs) (n : Nat) : Rng (xs.take n) := fun z hz => hx z (List.mem_of_mem_take hz)
theorem Rng.drop {xs : List Int} (hx : Rng xs) (n : Nat) : Rng (xs.drop n) := fun z hz => hx z (List.mem_of_mem_drop hz)
theorem Rng.get {xs : List Int} (hx : Rng xs) {i : Nat} (h : i < xs.length) : 0 ≤ xs[i] ∧ xs[i] < 256 := hx _ (List.getElem_mem h)
/-- The greatest body of a width. -/
def most (w : Int) : Int := if w = 2 then 1024 else if w = 4 then 131072 else -1
/-- The number that bytes tell, the greatest first. -/
def numOf (bs : List Int) : Int := bs.foldl (fun n z => n * 256 + z) 0
/-- The length that stands at a place; -1: it is not all there. -/
def lenAt (width : Nat) (bs : List Int) (at_ : Nat) : Int := if bs.length < at_ + width then -1 else numOf ((bs.drop at_).take width)
theorem num2 {bs : List Int} {a : Nat} (h : a + 2 ≤ bs.length) : numOf ((bs.drop a).take 2) = bs[a] * 256 + bs[a + 1] := by
  rw [List.drop_eq_getElem_cons (by omega), List.drop_eq_getElem_cons (by omega)]
  simp only [List.take_succ_cons, List.take_zero, numOf, List.foldl_cons, List.foldl_nil, Int.zero_mul, Int.zero_add]
theorem num4 {bs : List Int} {a : Nat} (h : a + 4 ≤ bs.length) : numOf ((bs.drop a).take 4) = ((bs[a] * 256 + bs[a + 1]) * 256 + bs[a + 2]) * 256 + bs[a + 3] := by
  rw [List.drop_eq_getElem_cons (by omega), List.drop_eq_getElem_cons (by omega), List.drop_eq_getElem_cons (by omega), List.drop_eq_getElem_cons (by omega)]
  simp only [List.take_succ_cons, List.take_zero, numOf, List.foldl_cons, List.foldl_nil, Int.zero_mul, Int.zero_add]
/-- A body's length, in so many bytes. -/
def headOf (width : Int) (n : Nat) : List Int := if width = 4 then [(n : Int) / 16777216, (n : Int) / 65536, (n : Int) / 256 % 256, (n : Int) % 256] else [(n : Int) / 256, (n : Int) % 256]
/-- What a reader has. -/
structure FSt where
  width : Nat
  held : List Int
  frames : Int
  ticks : Int
  bytes : Int
  dead : Bool
def FSt.fresh (n : Nat) : FSt := ⟨n, [], 0, 0, 0, false⟩
/-- What every reader keeps. -/
structure FSt.Ok (f : FSt) : Prop where
  width : f.width = 2 ∨ f.width = 4
  held : f.held.length ≤ 16777216
  rng : Rng f.held
def FSt.feed (f : FSt) (bs : List Int) : Option (Int × Int) × FSt :=
  if f.dead = true then (some (f.bytes, 120), f) else if 16777216 < (f.held.length : Int) + bs.length then (some (0, 4), f) else (none, { f with held := f.held ++ bs })
def FSt.widen (f : FSt) : Option (Int × Int) × FSt :=
  if f.dead = true then (some (f.bytes, 120), f) else if f.width = 4 then (some (0, 6), f) else (none, { f with width := 4 })
/-- The length that stands first. -/
def FSt.len (f : FSt) : Int := lenAt f.width f.held 0
def FSt.next (f : FSt) : Option (Int × Int) × Option (List Int) × FSt :=
  if f.dead = true then (some (f.bytes, 120), none, f) else if most f.width < f.len then (some (f.bytes, 120), none, { f with dead := true })
  else if f.len < 0 ∨ (f.held.length : Int) - f.width < f.len then (none, none, f)
  else (none, some ((f.held.drop f.width).take f.len.toNat), { f with held := f.held.drop (f.width + f.len.toNat), frames := wrap64 (f.frames + 1), bytes := wrap64 (f.bytes + (f.width + f.len.toNat : Nat)), ticks := if f.width = 4 ∧ f.len = 0 then wrap64 (f.ticks + 1) else f.ticks })
def FSt.framing (f : FSt) : Value := .agg #[.int .i64 f.width, .int .i64 f.held.length, .int .i64 f.frames, .int .i64 f.ticks, .int .i64 f.bytes, .bool f.dead]
theorem FSt.Ok.fresh {n : Nat} (h : n = 2 ∨ n = 4) : (FSt.fresh n).Ok := ⟨h, by simp [FSt.fresh], fun z hz => by simp [FSt.fresh] at hz⟩
theorem FSt.Ok.feed {f : FSt} (h : f.Ok) {bs : List Int} (hr : Rng bs) : (f.feed bs).2.Ok := by
  unfold FSt.feed
  split
  · exact h
  · split
    · exact h
    · exact ⟨h.width, by simp; omega, h.rng.append hr⟩
theorem FSt.Ok.widen {f : FSt} (h : f.Ok) : f.widen.2.Ok := by
  unfold FSt.widen
  split
  · exact h
  · split
    · exact h
    · exact ⟨.inr rfl, h.held, h.rng⟩
theorem FSt.Ok.next {f : FSt} (h : f.Ok) : f.next.2.2.Ok := by
  unfold FSt.next
  split
  · exact h
  · split
    · exact ⟨h.width, h.held, h.rng⟩
    · split
      · exact h
      · exact ⟨h.width, by have := h.held; simp; omega, h.rng.drop _⟩
/-- The state behind a body of m bytes. -/
def FSt.past (f : FSt) (m : Nat) (tick : Bool) : FSt := { f with held := f.held.drop (f.width + m), frames := wrap64 (f.frames + 1), bytes := wrap64 (f.bytes + (f.width + m : Nat)), ticks := if tick = true then wrap64 (f.ticks + 1) else f.ticks }
/-- With which number, and where, Frame refuses. -/
def frameErr (n : Int) (bs : List Int) : Option (Int × Int) := if n ≠ 2 ∧ n ≠ 4 then some (0, 1) else if most n < (bs.length : Int) then some (0, 4) else none
def frameBytes (n : Int) (bs : List Int) : List Int := if n ≠ 2 ∧ n ≠ 4 then [] else if most n < (bs.length : Int) then [] else headOf n bs.length ++ bs
theorem FSt.past_next {f : FSt} (hd : ¬ f.dead = true) (hl : ¬ most f.width < f.len) (hn : ¬ (f.len < 0 ∨ (f.held.length : Int) - f.width < f.len)) : f.next = (none, some ((f.held.drop f.width).take f.len.toNat), f.past f.len.toNat (decide (f.width = 4 ∧ f.len.toNat = 0))) := by
  unfold FSt.next FSt.past
  rw [if_neg hd, if_neg hl, if_neg hn]
  have h0 : ¬ f.len < 0 := fun h => hn (.inl h)
  by_cases h : f.width = 4 ∧ f.len = 0
  · rw [if_pos h, if_pos (by simp [h.1, h.2])]
  · rw [if_neg h, if_neg (by simp; intro h4; have h5 : f.len ≠ 0 := fun h5 => h ⟨h4, h5⟩; omega)]
/-- What Next tells: the body, or nil; whether there is one. -/
def bodyOf : Option (List Int) → List Int
  | none => []
  | some b => b
/-- The bodies of whole frames from a place on, behind those that are there. -/
def splitFrom (n : Nat) (bs : List Int) : Nat → Nat → List (List Int) → Option (Int × Int) × List (List Int) × Nat
  | 0, a, acc => (none, acc, a)
  | k + 1, a, acc => if most n < lenAt n bs a then (some (a, 120), [], 0) else if lenAt n bs a < 0 ∨ (bs.length : Int) - a - n < lenAt n bs a then (none, acc, a) else splitFrom n bs k (a + n + (lenAt n bs a).toNat) (acc ++ [(bs.drop (a + n)).take (lenAt n bs a).toNat])
def splitOf (n : Nat) (bs : List Int) : Option (Int × Int) × List (List Int) × Nat := splitFrom n bs (bs.length + 1) 0 []
/-- .. of any width. -/
def splitAny (n : Int) (bs : List Int) : Option (Int × Int) × List (List Int) × Nat := if n ≠ 2 ∧ n ≠ 4 then (some (0, 1), [], 0) else splitOf n.toNat bs
end Go.Proofs.YtpbakejocjmkeaaDoor
