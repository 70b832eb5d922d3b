/-
  Layer 11 (parse): the program's Same, one pair that is joined: of lists and of what lies in memory.
-/
import Derived.Test.YtipdmmncgenppaaGreatDoorPSmE
namespace Go.Proofs.YtipdmmncgenppaaGreatDoor
open Go.RowKit

/-- The pairs of the first Kids of two nodes. -/
def prs (l m : List Int) (j : Nat) : List (Nat × Nat) := ((l.take j).map Int.toNat).zip ((m.take j).map Int.toNat)
theorem prs_zero (l m : List Int) : prs l m 0 = [] := by simp [prs]
theorem prs_length (l m : List Int) (j : Nat) (h1 : j ≤ l.length) (h2 : j ≤ m.length) : (prs l m j).length = j := by simp [prs]; omega
theorem prs_succ (l m : List Int) (j : Nat) (h1 : j < l.length) (h2 : j < m.length) : prs l m (j + 1) = prs l m j ++ [(l[j].toNat, m[j].toNat)] := by
  unfold prs
  rw [List.take_succ_eq_append_getElem h1, List.take_succ_eq_append_getElem h2, List.map_append, List.map_append, List.zip_append (by simp; omega)]
  rfl
theorem prs_all (l m : List Int) (h : l.length = m.length) : prs l m l.length = (l.map Int.toNat).zip (m.map Int.toNat) := by
  unfold prs
  rw [List.take_of_length_le (Nat.le_refl _), List.take_of_length_le (by omega)]
theorem prs_shift (l m : List Int) (h : l.length = m.length) (a : Nat) : (prs l m l.length).map (fun p => (p.1, a + p.2)) = (l.map Int.toNat).zip (m.map fun z => a + z.toNat) := by
  rw [prs_all l m h]
  refine List.ext_getElem (by simp) fun j h1 h2 => ?_
  simp
theorem low_all {l : List Int} {i : Int} (h : l.all (lowB i) = true) (j : Nat) (hj : j < l.length) : 0 ≤ l[j] ∧ l[j] < i := by
  have := List.all_eq_true.1 h l[j] (List.getElem_mem hj)
  simpa [lowB] using this
theorem PSt.joined {w wr wr' : World} {A B : List Nd} {n M i k pi pk : Nat} {V V' : Value} {P' : List (Nat × Nat)} {rep : Nat → Nat} (hP : PSt w wr A B n M i k V (P' ++ [(pi, pk)]) rep) (hi : pi < A.length) (hk : pk < B.length) (hn : n = A.length + B.length) (kA : A[pi].kids.length ≤ M)
    (hr : rep pi ≠ rep (A.length + pk)) (hlk : lookB A[pi] B[pk] = true) (la : A[pi].kids.all (lowB pi) = true) (lb : B[pk].kids.all (lowB pk) = true)
    (own : OwnK 2 wr' V' (P' ++ prs A[pi].kids B[pk].kids A[pi].kids.length).length (pcs (P' ++ prs A[pi].kids B[pk].kids A[pi].kids.length))) (new : ∀ q, blk V' q → w.heap.size < q)
    (set : ∃ s, SetAt wr' w.heap.size n s ∧ ∃ dep, UF n s (joinR rep pi (A.length + pk)) dep) (bel : Below w.heap.size w wr') :
    PSt w wr' A B n M i k V' (P' ++ prs A[pi].kids B[pk].kids A[pi].kids.length) (joinR rep pi (A.length + pk)) ∧ lenOf V' + wsets wr' w.heap.size n * (M + 1) < lenOf V + wsets wr w.heap.size n * (M + 1) := by
  obtain ⟨h1, h2⟩ := (lookB_gr A B pi pk hi hk).1 hlk
  obtain ⟨a1, a2, a3⟩ := grOf_a A B pi hi
  obtain ⟨b1, b2, b3⟩ := grOf_b A B pk hk
  have hlen : A[pi].kids.length = B[pk].kids.length := by rw [a2, b2] at h2; simpa using h2
  obtain ⟨s, hs, dep, hu⟩ := hP.set
  obtain ⟨s', hs', dep', hu'⟩ := set
  have hj : joinR rep pi (A.length + pk) = meld rep (rep pi) (rep (A.length + pk)) := by rw [joinR, if_neg hr]
  have hlt := sets_meld (n := n) (hu.rlt pi (by omega)) (hu.rr (x := pi) (by omega)) (hu.rr (x := A.length + pk) (by omega)) hr
  rw [← hj] at hlt
  have hpl := prs_length A[pi].kids B[pk].kids A[pi].kids.length (Nat.le_refl _) (by omega)
  have hm1 : sets n (joinR rep pi (A.length + pk)) * M + M ≤ sets n rep * M := by
    have := Nat.mul_le_mul_right M hlt
    rw [Nat.succ_mul] at this
    exact this
  have hl := hP.len
  simp only [List.length_append, List.length_cons, List.length_nil] at hl
  refine ⟨⟨own, new, ⟨s', hs', dep', hu'⟩, bel, fun p hp => ?_, ?_, ?_⟩, ?_⟩
  · rcases List.mem_append.1 hp with hp | hp
    · exact hP.inb p (by simp [hp])
    · obtain ⟨j, hj, rfl⟩ := List.getElem_of_mem hp
      rw [hpl] at hj
      have e1 := low_all la j hj
      have e2 := low_all lb j (by omega)
      simp only [prs, List.getElem_zip, List.getElem_map, List.getElem_take]
      omega
  · obtain ⟨J, hJ⟩ := hP.si
    rw [List.map_append] at hJ
    have := SI.join hJ hr (by rw [a3]; exact la) (by rw [b3]; exact lb) h1 h2 (fun j hx hy => by
      simp only [a2, b2, List.getElem_map]
      rw [a2] at hx
      have := low_all la j (by simpa using hx)
      omega)
    refine ⟨fun x y => J x y ∨ (x = pi ∧ y = A.length + pk), ?_⟩
    rw [hj, List.map_append, prs_shift _ _ hlen, ← a2, ← b2]
    exact this
  · rw [List.length_append, hpl]
    omega
  · obtain ⟨x1, c1, e1, _⟩ := own.sl.form
    obtain ⟨x2, c2, e2, _⟩ := hP.own.sl.form
    rw [hs'.wsets hu', hs.wsets hu, e1, e2]
    simp only [lenOf, List.length_append, hpl, List.length_cons, List.length_nil]
    have : sets n (joinR rep pi (A.length + pk)) * (M + 1) + (M + 1) ≤ sets n rep * (M + 1) := by
      have := Nat.mul_le_mul_right (M + 1) hlt
      rw [Nat.succ_mul] at this
      exact this
    omega
theorem Tryz.pairTypes : ElTypes Tryz.prog 42 41 2 16 (.agg #[.int .i64 0, .int .i64 0]) := by
  refine ⟨Tryz.underlying42, ?_, by simp [Value.cells]⟩
  have h : (Tryz.prog.info? 41).map (fun i => (i.zero, i.size, i.bytes)) = some (some (.agg #[.int .i64 0, .int .i64 0]), 2, 16) := by kernel_rfl
  obtain ⟨i, hi, h0, h1, h2⟩ := info_parts h
  exact ⟨i, hi, h0, h1, h2⟩
theorem SlK.pair (w : World) (a b : Int) (t : TypeId) : SlK 2 (w.alloc (.cells #[.int .i64 a, .int .i64 b] t)) (.slice (some ⟨w.heap.size, 0, none⟩) 1 1) 1 [.int .i64 a, .int .i64 b] := by
  refine ⟨rfl, .inr ⟨w.heap.size, 0, 1, rfl, Nat.le_refl _, by decide, fun j hj => ?_⟩⟩
  have hj2 : j < 2 := hj
  match j, hj2 with
  | 0, _ => simp
  | 1, _ => simp
/-- The inner loop's state. -/
structure PIn (w wr : World) (A B : List Nd) (n pi pk : Nat) (V : Value) (P' : List (Nat × Nat)) (rep : Nat → Nat) (l m : List Int) (j : Nat) : Prop where
  own : OwnK 2 wr V (P'.length + j) (pcs (P' ++ prs l m j))
  new : ∀ q, blk V q → w.heap.size < q
  set : ∃ s, SetAt wr w.heap.size n s ∧ ∃ dep, UF n s rep dep
  bel : Below w.heap.size w wr
  la : (l.take j).all (lowB pi) = true
  lb : (m.take j).all (lowB pk) = true
theorem PIn.next {w wr w4 : World} {A B : List Nd} {n pi pk : Nat} {V V4 : Value} {P' : List (Nat × Nat)} {rep : Nat → Nat} {l m : List Int} {j x y : Nat} {o : Obj} (h : PIn w wr A B n pi pk V P' rep l m j) (h1 : j < l.length) (h2 : j < m.length) (hx : l[j] = (x : Int)) (hy : m[j] = (y : Int)) (lx : lowB pi l[j] = true) (ly : lowB pk m[j] = true)
    (ho : OwnK 2 w4 V4 (P'.length + j + 1) (pcs (P' ++ prs l m j) ++ [.int .i64 x, .int .i64 y])) (T : Turned (blk V) (wr.alloc o) w4) (hv : ∀ q, blk V4 q → blk V q ∨ q = (wr.alloc o).heap.size) : PIn w w4 A B n pi pk V4 P' rep l m (j + 1) := by
  have hz := h.bel.size
  obtain ⟨s, hs, dep, hu⟩ := h.set
  have T2 : Turned (blk V) wr w4 := (Turned.alloc (blk V) wr o).trans T (fun _ e => .inl e)
  refine ⟨?_, fun q hq => (hv q hq).elim (h.new q) (fun e => by simp at e; have := hs.lt; omega), ⟨s, hs.turned T2 (fun e => by have := h.new _ e; omega), dep, hu⟩, h.bel.trans (T2.below hz (fun q hq => Nat.le_of_lt (h.new q hq))), ?_, ?_⟩
  · rw [prs_succ l m j h1 h2, ← List.append_assoc, pcs_snoc, hx, hy]
    simpa [Nat.add_assoc] using ho
  · rw [List.take_succ_eq_append_getElem h1, List.all_append, h.la]; simp [lx]
  · rw [List.take_succ_eq_append_getElem h2, List.all_append, h.lb]; simp [ly]
end Go.Proofs.YtipdmmncgenppaaGreatDoor
