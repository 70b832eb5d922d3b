/-
  Layer 11 (parse): the program's Same and the document's, at whatever numbers; the statement's walk.
-/
import Derived.Test.YtipdmmncgenppaaGreatDoorPSmL
import Derived.Test.YtipdmmncgenppaaGreatDoorPSmH
import Derived.Test.YtipdmmncgenppaaGreatDoorPY
namespace Go.Proofs.YtipdmmncgenppaaGreatDoor
open Go.RowKit

/-- Are two nodes there, and the same? -/
def SameP (A B : List Nd) (i k : Int) : Prop := ∃ i' k' : Nat, i = (i' : Int) ∧ k = (k' : Int) ∧ i' < A.length ∧ k' < B.length ∧ (grOf A B).Same i' (A.length + k')
theorem SameP.in {A B : List Nd} {i k : Nat} (hi : i < A.length) (hk : k < B.length) : SameP A B i k ↔ (grOf A B).Same i (A.length + k) := by
  constructor
  · rintro ⟨i', k', e1, e2, _, _, h⟩
    obtain rfl : i = i' := by omega
    obtain rfl : k = k' := by omega
    exact h
  · exact fun h => ⟨i, k, rfl, rfl, hi, hk, h⟩
theorem SameP.out {A B : List Nd} {i k : Int} (h : lowB A.length i = false ∨ lowB B.length k = false) : ¬ SameP A B i k := by
  rintro ⟨i', k', rfl, rfl, h1, h2, _⟩
  rcases h with h | h
  · simp [lowB] at h; omega
  · simp [lowB] at h; omega
/-- What Same tells. -/
def SameTold (A B : List Nd) (i k : Int) (w : World) (x : Ending) (w' : World) : Prop := ∃ b, x = .returned (.bool b) ∧ (b = true ↔ SameP A B i k) ∧ Below w.heap.size w w'
/-- Nodes as an argument, not too many. -/
structure NdOk (w : World) (v : Value) (N : List Nd) : Prop where
  arg : NdArg w v N
  len : N.length ≤ 1048576
  kid : ∀ x ∈ N, x.kids.length ≤ 1048576
theorem NdOk.below {w w' : World} {v : Value} {N : List Nd} (h : NdOk w v N) (hb : Below w.heap.size w w') : NdOk w' v N := ⟨h.arg.below hb, h.len, h.kid⟩
set_option maxRecDepth 100000 in
set_option maxHeartbeats 1600000 in
theorem ps_Same {w : World} {va vb : Value} {A B : List Nd} (hA : NdOk w va A) (hB : NdOk w vb B) (i k : Int) : Calls Tryz.prog 8 #[va, .int .i64 i, vb, .int .i64 k] w (SameTold A B i k w) := by
  obtain ⟨aA, cA, rfl⟩ := hA.arg.form
  obtain ⟨aB, cB, rfl⟩ := hB.arg.form
  cases h1 : lowB A.length i with
  | true =>
    cases h2 : lowB B.length k with
    | true =>
      have e1 : 0 ≤ i ∧ i < (A.length : Int) := by simpa [lowB] using h1
      have e2 : 0 ≤ k ∧ k < (B.length : Int) := by simpa [lowB] using h2
      obtain ⟨i', rfl⟩ : ∃ q : Nat, i = (q : Int) := ⟨i.toNat, by omega⟩
      obtain ⟨k', rfl⟩ : ∃ q : Nat, k = (q : Int) := ⟨k.toNat, by omega⟩
      refine (ps_Same_in hA.arg hB.arg (A.length + B.length) 1048576 i' k' hA.len hB.len (Nat.le_refl _) hA.kid (by omega) (by omega) rfl).mono ?_
      rintro x w' ⟨b, rfl, hs, hb⟩
      exact ⟨b, rfl, by rw [hs, SameP.in (by omega) (by omega)], hb⟩
    | false =>
      have HO := Hid.mk7 (SameP.out (A := A) (B := B) (i := i) (k := k) (.inr h2))
      have n1 := ps_isNode aA A.length cA i
      have n2 := ps_isNode aB B.length cB k
      rw [h1] at n1
      rw [h2] at n2
      clear hA hB h1 h2
      go_enter Tryz.func8, Tryz.ntmps8
      go_wp2_with fail
      refine (n1 _).mono ?_
      rintro x w1 ⟨rfl, rfl⟩
      go_wp2_with fail
      refine (n2 _).mono ?_
      rintro x w1 ⟨rfl, rfl⟩
      go_wp2
      go_ret
      exact ⟨false, rfl, ⟨fun h => by (cases h), fun h => absurd h HO.out⟩, Below.refl _ _⟩
  | false =>
    have HO := Hid.mk7 (SameP.out (A := A) (B := B) (i := i) (k := k) (.inl h1))
    have n1 := ps_isNode aA A.length cA i
    rw [h1] at n1
    clear hA hB h1
    go_enter Tryz.func8, Tryz.ntmps8
    go_wp2_with fail
    refine (n1 _).mono ?_
    rintro x w1 ⟨rfl, rfl⟩
    go_wp2
    go_ret
    exact ⟨false, rfl, ⟨fun h => by (cases h), fun h => absurd h HO.out⟩, Below.refl _ _⟩
set_option maxRecDepth 100000 in
set_option maxHeartbeats 1600000 in
theorem ref_Same {w : World} {va vb : Value} {A B : List Nd} (hA : NdOk w va A) (hB : NdOk w vb B) (i k : Int) : Calls Tryz.prog 9 #[va, .int .i64 i, vb, .int .i64 k] w (SameTold A B i k w) := by
  obtain ⟨aA, cA, rfl⟩ := hA.arg.form
  obtain ⟨aB, cB, rfl⟩ := hB.arg.form
  by_cases hin : (0 ≤ i ∧ i < (A.length : Int)) ∧ 0 ≤ k ∧ k < (B.length : Int)
  · obtain ⟨e1, e2⟩ := hin
    obtain ⟨i', rfl⟩ : ∃ q : Nat, i = (q : Int) := ⟨i.toNat, by omega⟩
    obtain ⟨k', rfl⟩ : ∃ q : Nat, k = (q : Int) := ⟨k.toNat, by omega⟩
    refine (ref_Same_in hA.arg hB.arg i' k' hA.len hB.len hA.kid hB.kid (by omega) (by omega)).mono ?_
    rintro x w' ⟨b, rfl, hs, hb⟩
    exact ⟨b, rfl, by rw [hs, SameP.in (by omega) (by omega)], hb⟩
  · have HO : Hid (¬ SameP A B i k) := SameP.out (by simp [lowB]; omega)
    have hc : i < 0 ∨ (¬ i < 0 ∧ (A.length : Int) ≤ i) ∨ (¬ i < 0 ∧ ¬ (A.length : Int) ≤ i ∧ k < 0) ∨ (¬ i < 0 ∧ ¬ (A.length : Int) ≤ i ∧ ¬ k < 0 ∧ (B.length : Int) ≤ k) := by omega
    clear hin hA hB
    rcases hc with h1 | ⟨h1, h2⟩ | ⟨h1, h2, h3⟩ | ⟨h1, h2, h3, h4⟩
    all_goals
      go_enter Tryz.func9, Tryz.ntmps9
      go_wp2
      go_ret
      exact ⟨false, rfl, ⟨fun h => by (cases h), fun h => absurd h HO.out⟩, Below.refl _ _⟩
open Classical in
noncomputable def sameB (A B : List Nd) (i k : Int) : Bool := decide (SameP A B i k)
theorem SameTold.det {A B : List Nd} {i k : Int} {w w' : World} {x : Ending} (h : SameTold A B i k w x w') : x = .returned (.bool (sameB A B i k)) ∧ Below w.heap.size w w' := by
  obtain ⟨b, rfl, hs, hb⟩ := h
  refine ⟨congrArg Ending.returned (congrArg Value.bool ?_), hb⟩
  rw [Bool.eq_iff_iff, hs]
  simp [sameB]
set_option maxRecDepth 100000 in
set_option maxHeartbeats 1600000 in
/-- heddlelaw11.ParseSame. -/
theorem law_same {w : World} {va vb : Value} {A B : List Nd} (hA : NdOk w va A) (hB : NdOk w vb B) (i k : Int) (hw : SgAt w) : Calls Tryz.prog 4 #[va, .int .i64 i, vb, .int .i64 k] w fun x w' => x = .returned (.bool true) ∧ Below w.heap.size w w' := by
  have c1 : ∀ w', Below w.heap.size w w' → Calls Tryz.prog 8 #[va, .int .i64 i, vb, .int .i64 k] w' fun x w2 => x = .returned (.bool (sameB A B i k)) ∧ Below w.heap.size w w2 := fun w' hb => (ps_Same (hA.below hb) (hB.below hb) i k).mono fun x w2 h => ⟨h.det.1, hb.trans (h.det.2.mono hb.size)⟩
  have c2 : ∀ w', Below w.heap.size w w' → Calls Tryz.prog 9 #[va, .int .i64 i, vb, .int .i64 k] w' fun x w2 => x = .returned (.bool (sameB A B i k)) ∧ Below w.heap.size w w2 := fun w' hb => (ref_Same (hA.below hb) (hB.below hb) i k).mono fun x w2 h => ⟨h.det.1, hb.trans (h.det.2.mono hb.size)⟩
  have c3 : ∀ w', Below w.heap.size w w' → Calls Tryz.prog 8 #[va, .int .i64 i, va, .int .i64 i] w' fun x w2 => x = .returned (.bool (sameB A A i i)) ∧ Below w.heap.size w w2 := fun w' hb => (ps_Same (hA.below hb) (hA.below hb) i i).mono fun x w2 h => ⟨h.det.1, hb.trans (h.det.2.mono hb.size)⟩
  have c4 : ∀ w', Below w.heap.size w w' → Calls Tryz.prog 9 #[va, .int .i64 i, va, .int .i64 i] w' fun x w2 => x = .returned (.bool (sameB A A i i)) ∧ Below w.heap.size w w2 := fun w' hb => (ref_Same (hA.below hb) (hA.below hb) i i).mono fun x w2 h => ⟨h.det.1, hb.trans (h.det.2.mono hb.size)⟩
  have c5 : ∀ w', Below w.heap.size w w' → Calls Tryz.prog 7 #[] w' fun x w2 => x = .returned (.bool true) ∧ Below w.heap.size w w2 := fun w' hb => (law_alive (hw.below hb)).mono fun x w2 h => ⟨h.1, hb.trans (h.2.mono hb.size)⟩
  clear hA hB hw
  generalize sameB A B i k = b1 at c1 c2
  generalize sameB A A i i = b2 at c3 c4
  go_enter Tryz.func4, Tryz.ntmps4
  go_wp2_with fail
  refine (c1 _ (Below.refl _ _)).mono ?_
  rintro x w1 ⟨rfl, hb1⟩
  go_wp2_with fail
  refine (c2 _ hb1).mono ?_
  rintro x w2 ⟨rfl, hb2⟩
  clear hb1 c1 c2
  go_wp2_with fail
  refine (c3 _ hb2).mono ?_
  rintro x w3 ⟨rfl, hb3⟩
  clear hb2
  go_wp2_with fail
  refine (c4 _ hb3).mono ?_
  rintro x w4 ⟨rfl, hb4⟩
  clear hb3 c3 c4
  go_wp2_with fail
  refine (c5 _ hb4).mono ?_
  rintro x w5 ⟨rfl, hb5⟩
  clear hb4 c5
  go_wp2
  go_ret
  exact ⟨rfl, hb5⟩
end Go.Proofs.YtipdmmncgenppaaGreatDoor
