/-
  Layer 11 (parse): the two lists' nodes as one graph; the pairs that the program's Same keeps.
-/
import Derived.Test.YtipdmmncgenppaaGreatDoorPSmD
namespace Go.Proofs.YtipdmmncgenppaaGreatDoor
open Go.RowKit

def Nd.lab (n : Nd) : Int × List UInt8 × List UInt8 × Int := (n.kind, n.text.toList, n.mod.toList, n.num)
/-- The nodes of two lists, the second's behind the first's. -/
def grOf (A B : List Nd) : Gr (Option (Int × List UInt8 × List UInt8 × Int)) where
  lab x := if x < A.length then A[x]?.map Nd.lab else B[x - A.length]?.map Nd.lab
  kid x := if x < A.length then (kidsOf (kvs A) x).map Int.toNat else (kidsOf (kvs B) (x - A.length)).map (fun k => A.length + k.toNat)
  low x := if x < A.length then (kidsOf (kvs A) x).all (lowB x) else (kidsOf (kvs B) (x - A.length)).all (lowB ((x - A.length : Nat) : Int))
theorem kidsOf_kvs (A : List Nd) (i : Nat) (h : i < A.length) : kidsOf (kvs A) i = A[i].kids := by simp [kidsOf, kvs, h]
theorem grOf_a (A B : List Nd) (i : Nat) (h : i < A.length) : (grOf A B).lab i = some A[i].lab ∧ (grOf A B).kid i = A[i].kids.map Int.toNat ∧ (grOf A B).low i = A[i].kids.all (lowB i) := by
  simp [grOf, h, kidsOf_kvs A i h]
theorem grOf_b (A B : List Nd) (k : Nat) (h : k < B.length) : (grOf A B).lab (A.length + k) = some B[k].lab ∧ (grOf A B).kid (A.length + k) = B[k].kids.map (fun z => A.length + z.toNat) ∧ (grOf A B).low (A.length + k) = B[k].kids.all (lowB k) := by
  have h1 : ¬ A.length + k < A.length := by omega
  have h2 : A.length + k - A.length = k := by omega
  simp [grOf, h1, h2, h, kidsOf_kvs B k h]
theorem lookB_gr (A B : List Nd) (i k : Nat) (hi : i < A.length) (hk : k < B.length) : lookB A[i] B[k] = true ↔ ((grOf A B).lab i = (grOf A B).lab (A.length + k) ∧ ((grOf A B).kid i).length = ((grOf A B).kid (A.length + k)).length) := by
  obtain ⟨a1, a2, _⟩ := grOf_a A B i hi
  obtain ⟨b1, b2, _⟩ := grOf_b A B k hk
  rw [a1, b1, a2, b2]
  simp [lookB, Nd.lab]
  constructor
  · rintro ⟨h1, h2, h3, h4, h5⟩; exact ⟨⟨h1, h2, h3, h4⟩, h5⟩
  · rintro ⟨⟨h1, h2, h3, h4⟩, h5⟩; exact ⟨h1, h2, h3, h4, h5⟩
/-- Pairs in memory. -/
def pcs (P : List (Nat × Nat)) : List Value := P.flatMap fun p => [.int .i64 p.1, .int .i64 p.2]
theorem pcs_length (P : List (Nat × Nat)) : (pcs P).length = P.length * 2 := by
  induction P with
  | nil => rfl
  | cons p r ih => simp [pcs] at *; omega
theorem pcs_snoc (P : List (Nat × Nat)) (p : Nat × Nat) : pcs (P ++ [p]) = pcs P ++ [.int .i64 p.1, .int .i64 p.2] := by simp [pcs]
theorem OwnK.popped {w : World} {v : Value} {P : List (Nat × Nat)} {p : Nat × Nat} (h : OwnK 2 w v (P.length + 1) (pcs (P ++ [p]))) : ∃ g off cap, v = .slice (some ⟨g, off, none⟩) (P.length + 1) cap ∧ P.length + 1 ≤ cap ∧ cap ≤ maxLen ∧
    w.cell? ⟨g, off + P.length * 2, none⟩ = some (.int .i64 p.1) ∧ w.cell? ⟨g, off + P.length * 2 + 1, none⟩ = some (.int .i64 p.2) ∧ OwnK 2 w (.slice (some ⟨g, off, none⟩) P.length cap) P.length (pcs P) := by
  obtain ⟨h0, ⟨_, hn⟩ | ⟨g, off, cap, rfl, h2, h3, hg, h4, h5⟩⟩ := h
  · omega
  · have hl := pcs_length P
    have e : (pcs (P ++ [p])).length = P.length * 2 + 2 := by rw [pcs_snoc]; simp [hl]
    refine ⟨g, off, cap, rfl, h2, h3, ?_, ?_, hl, .inr ⟨g, off, cap, rfl, by omega, h3, hg, fun j hj => ?_, h5⟩⟩
    · rw [h4 (P.length * 2) (by omega)]
      simp [pcs_snoc, hl]
    · have := h4 (P.length * 2 + 1) (by omega)
      rw [Nat.add_assoc, this]
      simp [pcs_snoc, hl]
    · rw [h4 j (by omega)]
      simp [pcs_snoc, hj]
theorem pcs_one (P : List (Nat × Nat)) : ∀ u ∈ pcs P, u.oneCell' = true := by
  intro u hu
  simp only [pcs, List.mem_flatMap, List.mem_cons, List.not_mem_nil, or_false] at hu
  obtain ⟨p, _, rfl | rfl⟩ := hu <;> rfl
open Classical in
/-- How many sets there are, seen in memory. -/
noncomputable def wsets (w : World) (g n : Nat) : Nat := ((List.range n).filter (fun j : Nat => decide (w.cell? ⟨g, j, none⟩ = some (.int .i64 j)))).length
theorem SetAt.wsets {w : World} {g n : Nat} {s rep dep : Nat → Nat} (h : SetAt w g n s) (u : UF n s rep dep) : wsets w g n = sets n rep := by
  unfold Go.Proofs.YtipdmmncgenppaaGreatDoor.wsets sets
  congr 1
  refine List.filter_congr fun j hj => ?_
  have hj' : j < n := List.mem_range.1 hj
  rw [Bool.eq_iff_iff]
  simp only [decide_eq_true_eq, beq_iff_eq, (h.c j hj').1, Option.some.injEq, Value.int.injEq, true_and]
  constructor
  · intro e; exact u.root j hj' (by omega)
  · intro e
    have := u.top j hj'
    rw [e] at this
    omega
def lenOf : Value → Nat
  | .slice _ n _ => n
  | _ => 0
/-- The loop's state in memory. -/
structure PSt (w wr : World) (A B : List Nd) (n M i0 k0 : Nat) (V : Value) (P : List (Nat × Nat)) (rep : Nat → Nat) : Prop where
  own : OwnK 2 wr V P.length (pcs P)
  new : ∀ q, blk V q → w.heap.size < q
  set : ∃ s, SetAt wr w.heap.size n s ∧ ∃ dep, UF n s rep dep
  bel : Below w.heap.size w wr
  inb : ∀ p ∈ P, p.1 < A.length ∧ p.2 < B.length
  si : ∃ J, SI (grOf A B) rep J (P.map fun p => (p.1, A.length + p.2)) i0 (A.length + k0)
  len : P.length + sets n rep * M ≤ n * M + 1
end Go.Proofs.YtipdmmncgenppaaGreatDoor
