/-
  Layer 8 (shake): what the laws' two sides send one another, in lists and in memory.
-/
import Derived.Test.YtmnibmgbicnamaaGreatDoorShX
import Derived.Test.YtmnibmgbicnamaaGreatDoorSlRows
import Derived.Test.YtmnibmgbicnamaaGreatDoorSMeet
namespace Go.Proofs.YtmnibmgbicnamaaGreatDoor
open Go.RowKit

/-- Bytes, and few. -/
def Byts (l : List Int) : Prop := (∀ z ∈ l, 0 ≤ z ∧ z < 256) ∧ l.length ≤ 4096
theorem be4_rng (n : Int) : ∀ z ∈ be4 n, 0 ≤ z ∧ z < 256 := by
  intro z hz
  simp only [be4, List.mem_cons, List.not_mem_nil, or_false] at hz
  rcases hz with rfl | rfl | rfl | rfl <;> omega
theorem be2_rng (n : Int) : ∀ z ∈ be2 n, 0 ≤ z ∧ z < 256 := by
  intro z hz
  simp only [be2, List.mem_cons, List.not_mem_nil, or_false] at hz
  rcases hz with rfl | rfl <;> omega
theorem Byts.nil : Byts [] := ⟨(fun _ h => by cases h), by simp⟩
theorem Byts.write (m : Msg) (hm : ∀ z ∈ m.digest, 0 ≤ z ∧ z < 256) : Byts (writeOf m) := by
  unfold writeOf
  split
  · exact Byts.nil
  · rename_i hf
    split
    · exact Byts.nil
    · rename_i hn
      have hs := fits_small (by simpa using hf) (fun h => by
        cases hx : nodeOk m.name with
        | true => rfl
        | false => exact absurd ⟨h, hx⟩ hn)
      have hnm := nums_rng m.name
      have hst := nums_rng m.status
      have h4 := be4_rng m.challenge
      have h4' := be4_rng m.creation
      have h8 := bytes8_rng m.flags
      have h2 := be2_rng m.name.size
      unfold bytesOfMsg
      refine ⟨?_, ?_⟩
      · repeat' split
        all_goals simp only [List.forall_mem_cons, List.forall_mem_append]
        · exact ⟨by omega, hst⟩
        · exact ⟨by omega, h4, hm⟩
        · exact ⟨by omega, hm⟩
        · exact ⟨by omega, h8, h4, h4', h2, hnm⟩
        · exact ⟨by omega, h8, (fun _ h => by cases h), h4', h2, hnm⟩
      · repeat' split
        all_goals simp [be4, be2, bytes8, nums_length]
        all_goals omega
theorem took_out (s : Sd) (m : Msg) : ∀ o ∈ (s.took m).2.2, ∀ z ∈ o.digest, 0 ≤ z ∧ z < 256 := by
  have hd := fun n => digest_rng s.cookie n
  intro o ho
  unfold Sd.took at ho
  repeat' split at ho
  all_goals first
    | (cases ho; done)
    | (simp only [List.mem_cons, List.not_mem_nil, or_false] at ho; subst ho; exact hd _)
theorem take_out (s : Sd) (b : List Int) : ∀ l ∈ (s.take b).2.2, Byts l := by
  intro l hl
  unfold Sd.take at hl
  repeat' split at hl
  · cases hl
  · cases hl
  · cases hl
  · obtain ⟨o, ho, rfl⟩ := List.mem_map.1 hl
    exact Byts.write o (took_out _ _ o ho)
  · cases hl
theorem answer_out (s : Sd) (st : ByteArray) : ∀ l ∈ (s.answer st).2.2, Byts l := by
  intro l hl
  unfold Sd.answer at hl
  repeat' split at hl
  · cases hl
  · cases hl
  · cases hl
  · simp only [List.mem_cons, List.not_mem_nil, or_false] at hl
    rcases hl with rfl | rfl <;> exact Byts.write _ (fun _ h => by cases h)
  · simp only [List.mem_cons, List.not_mem_nil, or_false] at hl
    subst hl
    exact Byts.write _ (fun _ h => by cases h)
theorem takes_step (s : Sd) (acc l : List (List Int)) (j : Nat) (hj : j < l.length) : takesA s acc (l.drop j) = takesA (s.take l[j]).2.1 (acc ++ (s.take l[j]).2.2) (l.drop (j + 1)) := by
  rw [List.drop_eq_getElem_cons hj]
  rfl
theorem rounds_more (n : Nat) (x y : Sd) (l : List (List Int)) : metRounds (n + 1) x y l = metRounds n (takesA x [] l).1 (takesA y [] (takesA x [] l).2).1 (takesA y [] (takesA x [] l).2).2 := rfl

theorem Gather.turnedS {S : Nat → Prop} {w w' : World} {B : Nat} {v : Value} {vs : List Value} {ls : List (List Int)} (h : Gather w B v vs ls) (T : Turned S w w') (hS : ∀ k, S k → k < B) : Gather w' B v vs ls :=
  ⟨h.own.turned T (fun k hk hs => by have := h.big k hk; have := hS k hs; omega), h.len, fun i h1 h2 => (h.each i h1 h2).turned T (fun k hk hs => by have := (h.off i h1 k hk).1; have := hS k hs; omega), fun i h1 k hk => ⟨(h.off i h1 k hk).1, Nat.lt_of_lt_of_le (h.off i h1 k hk).2.1 T.size, (h.off i h1 k hk).2.2⟩, h.big⟩
/-- Many more. -/
theorem Gather.join {w w1 : World} {B C : Nat} {v v' x : Value} {vs ys : List Value} {ls ms : List (List Int)} (h : Gather w B v vs ls) (hB : B ≤ w.heap.size) (hx : Gather w C x ys ms) (hC : B ≤ C) (hvC : ∀ k, blk v k → k < C)
    (ho : OwnV w1 v' (vs ++ ys)) (ht : Turned (blk v) w w1) (hv : ∀ k, blk v' k → blk v k ∨ k = w.heap.size) : Gather w1 B v' (vs ++ ys) (ls ++ ms) := by
  have hz := ht.size
  refine ⟨ho, by simp [h.len, hx.len], fun i h1 h2 => ?_, fun i h1 k hk => ?_, fun k hk => (hv k hk).elim (h.big k) (fun e => by omega)⟩
  · by_cases hi : i < vs.length
    · rw [List.getElem_append_left hi, List.getElem_append_left (by rw [← h.len]; exact hi)]
      exact (h.each i hi (by rw [← h.len]; exact hi)).turned ht (fun k hk => (h.off i hi k hk).2.2)
    · have h3 : i - vs.length < ys.length := by simp at h1; omega
      have h4 : i - vs.length < ms.length := by rw [← hx.len]; exact h3
      have e : Sl w1 ys[i - vs.length] ms[i - vs.length] := (hx.each _ h3 h4).turned ht (fun k hk hb => by have := (hx.off _ h3 k hk).1; have := hvC k hb; omega)
      rw [List.getElem_append_right (by omega), List.getElem_append_right (by rw [← h.len]; omega)]
      simp only [← h.len]
      exact e
  · have key : B ≤ k ∧ k < w.heap.size ∧ ¬ blk v k := by
      by_cases hi : i < vs.length
      · rw [List.getElem_append_left hi] at hk
        exact h.off i hi k hk
      · have h3 : i - vs.length < ys.length := by simp at h1; omega
        rw [List.getElem_append_right (by omega)] at hk
        have hq := hx.off _ h3 k hk
        exact ⟨Nat.le_trans hC hq.1, hq.2.1, fun hb => by have := hvC k hb; omega⟩
    exact ⟨key.1, by omega, fun hb => (hv k hb).elim key.2.2 (fun e => by omega)⟩
/-- Messages that lie below C, and in no side. -/
structure Mail (w : World) (C gx gy : Nat) (V : Value) (vs : List Value) (ls : List (List Int)) : Prop where
  sl : SlV w V vs
  len : vs.length = ls.length
  each : ∀ i (h1 : i < vs.length) (h2 : i < ls.length), Sl w vs[i] ls[i]
  lies : ∀ k, blk V k → k < C ∧ k ≠ gx ∧ k ≠ gy
  offs : ∀ i (h1 : i < vs.length) k, blk vs[i] k → k < C ∧ k ≠ gx ∧ k ≠ gy
theorem Mail.turned {S : Nat → Prop} {w w' : World} {C gx gy : Nat} {V : Value} {vs : List Value} {ls : List (List Int)} (h : Mail w C gx gy V vs ls) (T : Turned S w w') (hS : ∀ k, S k → C ≤ k ∨ k = gx ∨ k = gy) : Mail w' C gx gy V vs ls :=
  ⟨h.sl.turned T (fun k hk hs => by have := h.lies k hk; have := hS k hs; omega), h.len, fun i h1 h2 => (h.each i h1 h2).turned T (fun k hk hs => by have := h.offs i h1 k hk; have := hS k hs; omega), h.lies, h.offs⟩
theorem Gather.mail {w : World} {B gx gy : Nat} {V : Value} {vs : List Value} {ls : List (List Int)} (h : Gather w B V vs ls) (hx : gx < B) (hy : gy < B) : Mail w w.heap.size gx gy V vs ls :=
  ⟨h.own.sl, h.len, h.each, fun k hk => ⟨h.own.blk_lt k hk, by have := h.big k hk; omega, by have := h.big k hk; omega⟩, fun i h1 k hk => ⟨(h.off i h1 k hk).2.1, by have := (h.off i h1 k hk).1; omega, by have := (h.off i h1 k hk).1; omega⟩⟩
theorem Gather.cell1 {w : World} {B : Nat} {V : Value} {vs : List Value} {ls : List (List Int)} (h : Gather w B V vs ls) : ∀ u ∈ vs, u.oneCell' = true := by
  intro u hu
  obtain ⟨i, hi, rfl⟩ := List.getElem_of_mem hu
  obtain ⟨a, c, e, _⟩ := (h.each i hi (by rw [← h.len]; exact hi)).form
  rw [e]; rfl
/-- Two sides. -/
structure Two (w wr : World) (gx gy : Nat) (X Y : Sd) : Prop where
  x : SideAt wr gx X
  y : SideAt wr gy Y
  xo : X.Ok
  yo : Y.Ok
  xf : X.Fresh
  yf : Y.Fresh
  gd : Gd wr
  b : Below w.heap.size w wr
  ne : gx ≠ gy
  xw : w.heap.size ≤ gx
  yw : w.heap.size ≤ gy
  xb : Big gx
  yb : Big gy
theorem Two.takeX {w wr w' : World} {gx gy : Nat} {X Y : Sd} {l : List Int} (h : Two w wr gx gy X Y) (hl : Byts l) (hs : SideAt w' gx (X.take l).2.1) (T : Turned (fun k => k = gx) wr w') : Two w w' gx gy (X.take l).2.1 Y :=
  ⟨hs, h.y.turned T (fun e => h.ne e.symm), h.xo.take hl.1, h.yo, h.xf.take hl.1, h.yf, h.gd.turned T h.xb (Nat.le_of_lt h.x.lt), h.b.trans (T.below h.b.size (fun k hk => by have hk : k = gx := hk; have := h.xw; omega)), h.ne, h.xw, h.yw, h.xb, h.yb⟩
theorem Two.takeY {w wr w' : World} {gx gy : Nat} {X Y : Sd} {l : List Int} (h : Two w wr gx gy X Y) (hl : Byts l) (hs : SideAt w' gy (Y.take l).2.1) (T : Turned (fun k => k = gy) wr w') : Two w w' gx gy X (Y.take l).2.1 :=
  ⟨h.x.turned T (fun e => h.ne e), hs, h.xo, h.yo.take hl.1, h.xf, h.yf.take hl.1, h.gd.turned T h.yb (Nat.le_of_lt h.y.lt), h.b.trans (T.below h.b.size (fun k hk => by have hk : k = gy := hk; have := h.yw; omega)), h.ne, h.xw, h.yw, h.xb, h.yb⟩
theorem Two.grown {S : Nat → Prop} {w wr w' : World} {gx gy C : Nat} {X Y : Sd} (h : Two w wr gx gy X Y) (T : Turned S wr w') (hx : gx < C) (hy : gy < C) (hC : C ≤ wr.heap.size) (hS : ∀ k, S k → C ≤ k) : Two w w' gx gy X Y := by
  have hB : Below C wr w' := T.below hC hS
  refine ⟨h.x.turned T (fun e => by have := hS _ e; omega), h.y.turned T (fun e => by have := hS _ e; omega), h.xo, h.yo, h.xf, h.yf, ⟨(hB.cell (p := ⟨0, 0, none⟩) (by have := h.xb.1; simp; omega)).trans h.gd.er, var?_below hB Tryz.pow10 (by have := h.xb.2; omega) h.gd.tb⟩, h.b.trans (T.below h.b.size (fun k hk => by have := hS k hk; have := h.xw; omega)), h.ne, h.xw, h.yw, h.xb, h.yb⟩
end Go.Proofs.YtmnibmgbicnamaaGreatDoor
