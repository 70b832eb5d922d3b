/-
  Layer 6 (frame): what both the document's and the program's answers are told by: numbers of bytes, links and faults with a place.
-/
import Derived.Test.YtpbakejocjmkeaaDoorFDef
import Derived.Test.YtpbakejocjmkeaaDoorRefused
import Derived.Test.YtpbakejocjmkeaaDoorBytes
import Derived.Test.YtpbakejocjmkeaaDoorChecked
import Derived.Deep.RegionHeld3
import Derived.Deep.RegionLaw
import Derived.Laws.BytesArg
import Derived.WalkSpells
namespace Go.Proofs.YtpbakejocjmkeaaDoor
open Go.RowKit

theorem Tryd.bytes : ByteTypes Tryd.prog 22 5 := by
  refine ⟨Tryd.underlying22, ?_⟩
  have h : (Tryd.prog.info? 5).map (fun i => (i.zero, i.size, i.bytes)) = some (some (.int .u8 0), 1, 1) := by kernel_rfl
  obtain ⟨i, hi, h0, h1, h2⟩ := info_parts h
  exact ⟨i, hi, h0, h1, h2⟩
/-- The beginning of a slice. -/
theorem Sl.take {w : World} {a : Option Addr} {cap n : Nat} {zs : List Int} (h : Sl w (.slice a zs.length cap) zs) (hn : n ≤ zs.length) : Sl w (.slice a n cap) (zs.take n) := by
  have hl : (zs.take n).length = n := by simp; omega
  rcases h with ⟨h1, rfl⟩ | ⟨a', h1, rfl⟩ | ⟨g, off, cap', h1, h2, h3, h4⟩
  · cases h1
    have : n = 0 := by simpa using hn
    subst this
    exact .inl ⟨rfl, rfl⟩
  · cases h1
    have : n = 0 := by simpa using hn
    subst this
    exact .inr (.inl ⟨a', rfl, rfl⟩)
  · cases h1
    refine .inr (.inr ⟨g, off, cap, by rw [hl], by rw [hl]; omega, h3, fun j hj => ?_⟩)
    rw [hl] at hj
    rw [h4 j (by omega), List.getElem_take]
/-- The rest of a slice. -/
theorem Sl.drop {w : World} {a : Option Addr} {cap n : Nat} {zs : List Int} (h : Sl w (.slice a zs.length cap) zs) (hn : n ≤ zs.length) : Sl w (.slice (if cap = n then a else a.map (·.add n)) (zs.length - n) (cap - n)) (zs.drop n) := by
  rcases h with ⟨h1, rfl⟩ | ⟨a', h1, rfl⟩ | ⟨g, off, cap', h1, h2, h3, h4⟩
  · cases h1
    have : n = 0 := by simpa using hn
    subst this
    exact .inl ⟨by simp, rfl⟩
  · cases h1
    have : n = 0 := by simpa using hn
    subst this
    exact .inr (.inl ⟨a', by simp, rfl⟩)
  · cases h1
    by_cases hc : cap = n
    · rw [if_pos hc]
      refine .inr (.inr ⟨g, off, cap - n, by simp, by simp; omega, by omega, fun j hj => ?_⟩)
      simp at hj; omega
    · rw [if_neg hc]
      refine .inr (.inr ⟨g, off + n, cap - n, by simp [Addr.add_lit], by simp; omega, by omega, fun j hj => ?_⟩)
      rw [List.getElem_drop, ← h4 (n + j) (by simp at hj; omega), Nat.add_assoc]
theorem Sl.str {w : World} {v : Value} {zs : List Int} (h : Sl w v zs) : (convert 22 9 v).run Tryd.prog w = .ok (.string (strOfNums zs)) w := by
  rcases h with ⟨rfl, rfl⟩ | ⟨a, rfl, rfl⟩ | ⟨g, off, cap, rfl, _, _, h4⟩
  · exact run_convert_bytes_nil w _ _ Tryd.underlying22 Tryd.underlying5 0 0 _ Tryd.underlying9
  · rw [run_convert_bytes_string w _ _ _ _ _ _ Tryd.underlying22 Tryd.underlying5 Tryd.underlying9]
    have hl : (loadCells a 0).run Tryd.prog w = .ok #[] w := by simpa using run_loadCells_list (P := Tryd.prog) w a [] (fun j v hj => by simp at hj)
    simp [Conv.bytesToString, strOfNums, hl]
    rfl
  · exact run_convert_bytes_arg w _ _ Tryd.underlying22 Tryd.underlying5 g off zs.length cap zs rfl (fun i hi => by rw [h4 i hi]; simp [List.getD, List.getElem?_eq_getElem hi]) _ Tryd.underlying9
/-- Of no bytes nothing can turn. -/
theorem Sl.turnedN {S : Nat → Prop} {w w' : World} {v : Value} {zs : List Int} (h : Sl w v zs) (ht : Turned S w w') (hs : zs ≠ [] → ∀ k, blk v k → ¬ S k) : Sl w' v zs := by
  cases zs with
  | nil =>
    rcases h with h | h | ⟨g, off, cap, h1, h2, h3, _⟩
    · exact .inl h
    · exact .inr (.inl h)
    · exact .inr (.inr ⟨g, off, cap, h1, h2, h3, fun j hj => absurd hj (Nat.not_lt_zero j)⟩)
  | cons z r => exact h.turned ht (hs (by simp))
/-- A slice that has a byte lies in a block that is there. -/
theorem Sl.lt {w : World} {v : Value} {zs : List Int} (h : Sl w v zs) (hne : zs ≠ []) : ∀ k, blk v k → k < w.heap.size := by
  rcases h with ⟨_, h⟩ | ⟨_, _, h⟩ | ⟨g, off, cap, rfl, _, _, h4⟩
  · exact absurd h hne
  · exact absurd h hne
  · intro k hk
    have hk : g = k := hk
    subst hk
    have h0 : 0 < zs.length := List.length_pos_iff.2 hne
    exact World.block_lt_of_cell? w _ (h4 0 h0)



/-- One link, in a block from B on, of layer frame. -/
def LinkAt (B : Nat) (w : World) (v : Value) (x : Int × Int) : Prop := ∃ lb, B ≤ lb ∧ v = .slice (some ⟨lb, 0, none⟩) 1 1 ∧ w.cell? ⟨lb, 0, none⟩ = some (.string ⟨#[102, 114, 97, 109, 101]⟩) ∧ w.cell? ⟨lb, 1, none⟩ = some (.int .i64 x.1) ∧ w.cell? ⟨lb, 2, none⟩ = some (.int .i64 x.2)
def LinksF (B : Nat) (w : World) (v : Value) : Option (Int × Int) → Prop
  | none => v = .slice none 0 0
  | some x => LinkAt B w v x
theorem LinksF.turned {B : Nat} {w w' : World} {v : Value} {oc : Option (Int × Int)} {S : Nat → Prop} (h : LinksF B w v oc) (ht : Turned S w w') (hs : ∀ k, B ≤ k → k < w.heap.size → ¬ S k) : LinksF B w' v oc := by
  cases oc with
  | none => exact h
  | some c =>
    obtain ⟨lb, h0, rfl, h1, h2, h3⟩ := h
    have hp := hs lb h0 (World.block_lt_of_cell? w _ h1)
    exact ⟨lb, h0, rfl, ht.cell h1 hp, ht.cell h2 hp, ht.cell h3 hp⟩

/-- A fault, in a block from B on, of layer frame with nothing under it. -/
def FaultAt (B : Nat) (w : World) (v : Value) (x : Int × Int) : Prop := ∃ pb, B ≤ pb ∧ v = .iface 83 (.pointer (some ⟨pb, 0, none⟩)) ∧ w.cell? ⟨pb, 0, none⟩ = some (.string ⟨#[102, 114, 97, 109, 101]⟩) ∧ w.cell? ⟨pb, 1, none⟩ = some (.int .i64 x.1) ∧ w.cell? ⟨pb, 2, none⟩ = some (.int .i64 x.2) ∧ w.cell? ⟨pb, 3, none⟩ = some .nilIface
def ErrsF (B : Nat) (w : World) (v : Value) : Option (Int × Int) → Prop
  | none => v = .nilIface
  | some x => FaultAt B w v x
theorem ErrsF.turned {B : Nat} {w w' : World} {v : Value} {oc : Option (Int × Int)} {S : Nat → Prop} (h : ErrsF B w v oc) (ht : Turned S w w') (hs : ∀ k, B ≤ k → k < w.heap.size → ¬ S k) : ErrsF B w' v oc := by
  cases oc with
  | none => exact h
  | some c =>
    obtain ⟨pb, h0, rfl, h1, h2, h3, h4⟩ := h
    have hp := hs pb h0 (World.block_lt_of_cell? w _ h1)
    exact ⟨pb, h0, rfl, ht.cell h1 hp, ht.cell h2 hp, ht.cell h3 hp, ht.cell h4 hp⟩
/-- The variable errors.errorType. -/
def Er (w : World) : Prop := w.cell? ⟨0, 0, none⟩ = some (.iface 105 (.agg #[.pointer (some ⟨1, 24, none⟩)]))
theorem Er.turned {S : Nat → Prop} {w w' : World} (h : Er w) (ht : Turned S w w') (hs : ¬ S 0) : Er w' := ht.cell h hs
theorem Er.below {w w' : World} (h : Er w) (hb : Below w.heap.size w w') : Er w' := (hb.cell (p := ⟨0, 0, none⟩) (World.block_lt_of_cell? w _ h)).trans h

/-- Refused of what both tell. -/
theorem refused_bothF {B B' : Nat} {w : World} {v l : Value} {oc : Option (Int × Int)} (her : Er w) (he : ErrsF B w v oc) (hl : LinksF B' w l oc) :
    Calls Tryd.prog 9 #[v, l] w fun ev w' => ev = .returned (.bool true) ∧ Below w.heap.size w w' := by
  cases oc with
  | none =>
    have hv : v = .nilIface := he
    have hl' : l = .slice none 0 0 := hl
    subst hv hl'
    refine (refused_nil w none 0).mono ?_
    rintro ev w' ⟨rfl, rfl⟩
    exact ⟨rfl, Below.refl _ _⟩
  | some c =>
    obtain ⟨pb, _, rfl, h1, h2, h3, h4⟩ := he
    obtain ⟨lb, _, rfl, l1, l2, l3⟩ := hl
    exact refused_fault pb 0 lb 1 _ _ _ w her h1 h2 h3 h4 l1 l2 l3

theorem one_any (ly : ByteArray) (a c : Int) (w : World) : Calls Tryd.prog 23 #[.string ly, .int .i64 a, .int .i64 c] w fun e w' => e = .returned (.slice (some ⟨w.heap.size, 0, none⟩) 1 1) ∧ w' = w.alloc (.cells #[.string ly, .int .i64 a, .int .i64 c] 76) := by
  go_enter Tryd.func23, Tryd.ntmps23
  go_wp2
  go_ret
  exact ⟨rfl, rfl⟩

/-- The document's refusal. -/
theorem no_any (a c : Int) (w : World) : Calls Tryd.prog 27 #[.int .i64 a, .int .i64 c] w fun e w' => ∃ v, e = .returned v ∧ LinksF w.heap.size w' v (some (a, c)) ∧ Below w.heap.size w w' := by
  go_enter Tryd.func27, Tryd.ntmps27
  go_wp2
  go_ret
  exact ⟨_, rfl, ⟨_, Nat.le_refl _, rfl, by simp, by simp, by simp⟩, (Below.refl _ _).alloc (Nat.le_refl _) _⟩

theorem greatest_any (n : Int) (w : World) : Calls Tryd.prog 26 #[.int .i64 n] w fun e w' => e = .returned (.int .i64 (most n)) ∧ w = w' := by
  unfold most
  by_cases h2 : n = 2
  · subst h2
    go_enter Tryd.func26, Tryd.ntmps26
    go_wp2
    go_ret
    exact ⟨rfl, rfl⟩
  by_cases h4 : n = 4
  · subst h4
    go_enter Tryd.func26, Tryd.ntmps26
    go_wp2
    go_ret
    exact ⟨rfl, rfl⟩
  rw [if_neg h2, if_neg h4]
  have k2 : (n == 2) = false := by simpa using h2
  have k4 : (n == 4) = false := by simpa using h4
  go_enter Tryd.func26, Tryd.ntmps26
  go_wp2
  go_ret
  exact ⟨rfl, rfl⟩
end Go.Proofs.YtpbakejocjmkeaaDoor
