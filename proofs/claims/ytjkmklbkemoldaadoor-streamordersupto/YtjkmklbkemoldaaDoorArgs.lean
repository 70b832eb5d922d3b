/-
  A law's argument, read out of memory: a slice of bytes; a row of calls.
-/
import Derived.Test.YtjkmklbkemoldaaDoorRuns
import Derived.ProofKit
import Derived.Lib.SmallJoins
import Derived.Deep.Slices
namespace Go.Proofs.YtjkmklbkemoldaaDoor
open Go.ChangeShapes Go.WideShapes Go.RowKit

theorem Tryd.cellsByte : Tryd.prog.cellsOf 5 = 1 := by kernel_rfl
theorem Tryd.cellsOp : Tryd.prog.cellsOf 31 = 5 := by kernel_rfl
theorem Tryd.bytesByte : Tryd.prog.bytesOf 5 = 1 := by kernel_rfl
theorem Tryd.bytesOp : Tryd.prog.bytesOf 31 = 56 := by kernel_rfl

section
variable {H : Type} {enc : TypeId × Value → H} {W : World}

/-- How many places a slice's datum has. -/
def placesOf : DataW H → Nat
  | .slice elems spare => elems.length + spare.length
  | _ => 0

set_option maxRecDepth 100000 in
theorem sl_of_trod {n : Nat} {x : Value} {y : DataW H × List MemPlace} (h : DataW.trod enc Tryd.prog W 0 (fun _ => true) true n 29 [x] = some y) : ∃ bs, Sl W x bs ∧ bs.length ≤ placesOf y.1 := by
  rcases Deep.open_slice1 Tryd.underlying29 Tryd.cellsByte h with ⟨hx, rfl⟩ | ⟨a, len, cap, m, n', V, D, Pl, hx, _, hl, hm, hmm, rfl, hc⟩
  · simp only [List.cons.injEq, and_true] at hx
    subst hx
    exact ⟨[], .inl ⟨rfl, rfl⟩, Nat.zero_le _⟩
  · simp only [List.cons.injEq, and_true] at hx
    subst hx
    simp only [if_true] at hmm
    subst hmm
    by_cases h0 : m = 0
    · subst h0
      have : len = 0 := by omega
      subst this
      exact ⟨[], .inr (.inl ⟨a, rfl, rfl⟩), Nat.zero_le _⟩
    · obtain ⟨b, off, spot⟩ := a
      have hspot : spot = none := by simpa [Addr.add] using World.cell?_spot (hc 0 (by omega)).1
      subst hspot
      have hz : ∀ i, i < len → ∃ z : Int, V i = .int .u8 z := fun i hi => by
        obtain ⟨z, hz, _⟩ := DataW.trod_int Tryd.underlying5 (hc i (by omega)).2
        simp only [List.cons.injEq, and_true] at hz
        exact ⟨z, hz⟩
      obtain ⟨z, hz⟩ := Deep.choose_lt hz
      refine ⟨(List.range len).map z, .inr (.inr ⟨b, off, m, by simp, by simpa using hl, hm, fun j hj => ?_⟩), ?_⟩
      · have hj : j < len := by simpa using hj
        have := (hc j (by omega)).1
        rw [Addr.add_lit] at this
        rw [this, hz j hj]
        simp
      · simp [placesOf]

/-- A struct of five fields of one cell each. -/
theorem five_fields {P : Program} {base : Nat} {spare : Nat → Bool} {held : Bool} {fuel : Nat} {t : TypeId} {f0 f1 f2 f3 f4 : Field} {c0 c1 c2 c3 c4 : Value} {x : DataW H × List MemPlace}
    (hs : P.underlying t = some (.struct #[f0, f1, f2, f3, f4])) (hone : Deep.oneCellFields P #[f0, f1, f2, f3, f4] = true) (h : DataW.trod enc P W base spare held fuel t [c0, c1, c2, c3, c4] = some x) :
    ∃ (y0 y1 y2 y3 y4 : DataW H × List MemPlace) (n : Nat), x.1 = .agg [y0.1, y1.1, y2.1, y3.1, y4.1] ∧
      DataW.trod enc P W base spare held n f0.type [c0] = some y0 ∧ DataW.trod enc P W base spare held n f1.type [c1] = some y1 ∧ DataW.trod enc P W base spare held n f2.type [c2] = some y2 ∧ DataW.trod enc P W base spare held n f3.type [c3] = some y3 ∧ DataW.trod enc P W base spare held n f4.type [c4] = some y4 := by
  obtain ⟨xs, n, _, hx, _, hlen, hf⟩ := DataW.trod_struct hs h
  obtain ⟨o0, k0⟩ := Deep.hone_of hone 0 f0 rfl
  obtain ⟨o1, k1⟩ := Deep.hone_of hone 1 f1 rfl
  obtain ⟨o2, k2⟩ := Deep.hone_of hone 2 f2 rfl
  obtain ⟨o3, k3⟩ := Deep.hone_of hone 3 f3 rfl
  obtain ⟨o4, k4⟩ := Deep.hone_of hone 4 f4 rfl
  match xs, hlen with
  | [y0, y1, y2, y3, y4], _ =>
    exact ⟨y0, y1, y2, y3, y4, n, by rw [hx]; rfl, by simpa [o0, k0] using hf 0 f0 rfl, by simpa [o1, k1] using hf 1 f1 rfl, by simpa [o2, k2] using hf 2 f2 rfl, by simpa [o3, k3] using hf 3 f3 rfl, by simpa [o4, k4] using hf 4 f4 rfl⟩

theorem mem_weightsAll {P : Program} {e : TypeId} {d : DataW H} {l : List (DataW H)} (hd : d ∈ l) {k : Nat} (hk : k ∈ d.weights P e) : k ∈ DataW.weightsAll P e l := by
  induction l with
  | nil => cases hd
  | cons x r ih =>
    simp only [DataW.weightsAll, List.mem_append]
    rcases List.mem_cons.1 hd with rfl | hd
    · exact .inl hk
    · exact .inr (ih hd)

theorem places_small {d : DataW H} (h : ∀ k ∈ d.weights Tryd.prog 29, k ≤ reachBytes) : placesOf d ≤ 140737488355328 := by
  cases d with
  | slice e sp =>
    have := h ((e.length + sp.length) * Tryd.prog.bytesOf 5) (by simp [DataW.weights, Tryd.underlying29])
    rw [Tryd.bytesByte] at this
    simp only [reachBytes] at this
    simp only [placesOf]
    omega
  | _ => simp [placesOf]

set_option maxRecDepth 100000 in
theorem script_of_trod {v : Value} {d : DataW H} {p : List MemPlace} {base : Nat} (hv : Value.okWide Tryd.prog W .any base 22 v) (h : DataW.Trod enc Tryd.prog W 0 (fun _ => true) true 22 v d p) (hsz : ∀ k ∈ d.weights Tryd.prog 22, k ≤ reachBytes) : Script W v := by
  obtain ⟨a0, len0, cap0, rfl⟩ := okWide_slice Tryd.underlying22 hv
  obtain ⟨fuel, hf⟩ := h
  rcases Deep.open_slice Tryd.underlying22 hf with ⟨hx, _⟩ | ⟨a, len, cap, m, n', D, Pl, hx, _, hl, hm, hmm, hd, hc⟩
  · simp [Value.cells] at hx
    obtain ⟨rfl, rfl, rfl⟩ := hx
    exact ⟨none, 0, 0, rfl, Nat.zero_le _, fun j hj => absurd hj (Nat.not_lt_zero j)⟩
  · simp [Value.cells] at hx
    obtain ⟨rfl, rfl, rfl⟩ := hx
    simp only [if_true] at hmm
    subst hmm
    simp only [Prod.mk.injEq] at hd
    obtain ⟨rfl, rfl⟩ := hd
    have hlen : len0 ≤ 140737488355328 := by
      have := hsz ((((List.range len0).map D).length + ((List.range (m - len0)).map fun j => D (len0 + j)).length) * Tryd.prog.bytesOf 31) (by simp [DataW.weights, Tryd.underlying22])
      rw [Tryd.bytesOp] at this
      simp [reachBytes] at this
      omega
    refine ⟨some a, len0, m, rfl, hlen, fun j hj => ?_⟩
    have hspot : a.spot = none := by
      obtain ⟨cs, hcs, _⟩ := hc 0 (by omega)
      rw [Tryd.cellsOp] at hcs
      obtain ⟨_, hcl, hcell⟩ := World.cells?_some hcs
      match cs, hcl with
      | c0 :: _, _ =>
        have := World.cell?_spot (v := c0) (by simpa using hcell 0 (by omega))
        simpa [Addr.add] using this
    obtain ⟨b, off, spot⟩ := a
    have hspot : spot = none := hspot
    subst hspot
    obtain ⟨cs, hcs, htr⟩ := hc j (by omega)
    rw [Tryd.cellsOp] at hcs
    obtain ⟨_, hcl, hcell⟩ := World.cells?_some hcs
    refine ⟨b, off, rfl, ?_⟩
    match cs, hcl with
    | [c0, c1, c2, c3, c4], _ =>
      simp only [Addr.add_lit] at hcell
      have q0 := hcell 0 (by omega)
      have q1 := hcell 1 (by omega)
      have q2 := hcell 2 (by omega)
      have q3 := hcell 3 (by omega)
      have q4 := hcell 4 (by omega)
      simp at q0 q1 q2 q3 q4
      obtain ⟨y0, y1, y2, y3, y4, n2, hDi, t0, t1, t2, t3, t4⟩ := five_fields Tryd.underlying31 (by kernel_rfl) htr
      obtain ⟨k, hk, _⟩ := DataW.trod_int Tryd.underlying3 t0
      obtain ⟨e, he, _⟩ := DataW.trod_int Tryd.underlying3 t1
      obtain ⟨n3, hn3, _⟩ := DataW.trod_int Tryd.underlying3 t2
      obtain ⟨y, hy, _⟩ := DataW.trod_bool Tryd.underlying4 t3
      obtain ⟨bs, hbs, hpl⟩ := sl_of_trod t4
      simp only [List.cons.injEq, and_true] at hk he hn3 hy
      subst hk he hn3 hy
      have hDi : D j = .agg [y0.1, y1.1, y2.1, y3.1, y4.1] := hDi
      refine ⟨k, e, n3, y, c4, bs, q0, q1, q2, q3, q4, hbs, Nat.le_trans hpl (places_small fun z hz => hsz z ?_)⟩
      have hin : z ∈ (D j).weights Tryd.prog 31 := by
        rw [hDi]
        simp only [DataW.weights, Tryd.underlying31]
        simp [DataW.weightsEach, hz]
      have hmem : z ∈ DataW.weightsAll Tryd.prog 31 ((List.range len0).map D) := mem_weightsAll (List.mem_map.2 ⟨j, List.mem_range.2 hj, rfl⟩) hin
      simp [DataW.weights, Tryd.underlying22, hmem]
end
end Go.Proofs.YtjkmklbkemoldaaDoor
