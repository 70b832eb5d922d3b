/-
  A row of calls of a reader, read out of memory.
-/
import Derived.Test.YtpbakejocjmkeaaDoorFRowBase
import Derived.Test.YtpbakejocjmkeaaDoorFPlays2
namespace Go.Proofs.YtpbakejocjmkeaaDoor
open Go.ChangeShapes Go.WideShapes Go.RowKit

theorem Tryd.cellsOp : Tryd.prog.cellsOf 47 = 2 := by kernel_rfl
theorem Tryd.bytesOp : Tryd.prog.bytesOf 47 = 32 := by kernel_rfl

section
variable {H : Type} {enc : TypeId × Value → H} {W : World}

/-- A struct of two fields of one cell each. -/
theorem two_fields {P : Program} {base : Nat} {spare : Nat → Bool} {held : Bool} {fuel : Nat} {t : TypeId} {f0 f1 : Field} {c0 c1 : Value} {x : DataW H × List MemPlace}
    (hs : P.underlying t = some (.struct #[f0, f1])) (hone : Deep.oneCellFields P #[f0, f1] = true) (h : DataW.trod enc P W base spare held fuel t [c0, c1] = some x) :
    ∃ (y0 y1 : DataW H × List MemPlace) (n : Nat), x.1 = .agg [y0.1, y1.1] ∧ DataW.trod enc P W base spare held n f0.type [c0] = some y0 ∧ DataW.trod enc P W base spare held n f1.type [c1] = some y1 := by
  obtain ⟨xs, n, _, hx, _, hlen, hf⟩ := DataW.trod_struct hs h
  obtain ⟨o0, k0⟩ := Deep.hone_of hone 0 f0 rfl
  obtain ⟨o1, k1⟩ := Deep.hone_of hone 1 f1 rfl
  match xs, hlen with
  | [y0, y1], _ => exact ⟨y0, y1, n, by rw [hx]; rfl, by simpa [o0, k0] using hf 0 f0 rfl, by simpa [o1, k1] using hf 1 f1 rfl⟩
set_option maxRecDepth 100000 in
theorem scriptF_of_trod {v : Value} {d : DataW H} {p : List MemPlace} {base : Nat} (hv : Value.okWide Tryd.prog W .any base 39 v) (h : DataW.Trod enc Tryd.prog W 0 (fun _ => true) true 39 v d p) (hsz : ∀ k ∈ d.weights Tryd.prog 39, k ≤ reachBytes) : ScriptF W v := by
  obtain ⟨a0, len0, cap0, rfl⟩ := okWide_slice Tryd.underlying39 hv
  obtain ⟨fuel, hf⟩ := h
  rcases Deep.open_slice Tryd.underlying39 hf with ⟨hx, _⟩ | ⟨a, len, cap, m, n', D, Pl, hx, _, hl, hm, hmm, hd, hc⟩
  · simp [Value.cells] at hx
    obtain ⟨rfl, rfl, rfl⟩ := hx
    exact ⟨none, 0, 0, rfl, Nat.zero_le _, fun j hj => absurd hj (Nat.not_lt_zero j)⟩
  · simp [Value.cells] at hx
    obtain ⟨rfl, rfl, rfl⟩ := hx
    simp only [if_true] at hmm
    subst hmm
    simp only [Prod.mk.injEq] at hd
    obtain ⟨rfl, rfl⟩ := hd
    have hlen : len0 ≤ 140737488355328 := by
      have := hsz ((((List.range len0).map D).length + ((List.range (m - len0)).map fun j => D (len0 + j)).length) * Tryd.prog.bytesOf 47) (by simp [DataW.weights, Tryd.underlying39])
      rw [Tryd.bytesOp] at this
      simp [reachBytes] at this
      omega
    refine ⟨some a, len0, m, rfl, hlen, fun j hj => ?_⟩
    have hspot : a.spot = none := by
      obtain ⟨cs, hcs, _⟩ := hc 0 (by omega)
      rw [Tryd.cellsOp] at hcs
      obtain ⟨_, hcl, hcell⟩ := World.cells?_some hcs
      match cs, hcl with
      | c0 :: _, _ =>
        have := World.cell?_spot (v := c0) (by simpa using hcell 0 (by omega))
        simpa [Addr.add] using this
    obtain ⟨b, off, spot⟩ := a
    have hspot : spot = none := hspot
    subst hspot
    obtain ⟨cs, hcs, htr⟩ := hc j (by omega)
    rw [Tryd.cellsOp] at hcs
    obtain ⟨_, hcl, hcell⟩ := World.cells?_some hcs
    refine ⟨b, off, rfl, ?_⟩
    match cs, hcl with
    | [c0, c1], _ =>
      simp only [Addr.add_lit] at hcell
      have q0 := hcell 0 (by omega)
      have q1 := hcell 1 (by omega)
      simp at q0 q1
      obtain ⟨y0, y1, n2, hDi, t0, t1⟩ := two_fields Tryd.underlying47 (by kernel_rfl) htr
      obtain ⟨k, hk, _⟩ := DataW.trod_int Tryd.underlying3 t0
      obtain ⟨bs, hbs, hpl, hrg⟩ := field_of_trod t1
      simp only [List.cons.injEq, and_true] at hk
      subst hk
      have hDi : D j = .agg [y0.1, y1.1] := hDi
      refine ⟨k, c1, bs, q0, q1, hbs, hrg, Nat.le_trans hpl (places_small fun z hz => hsz z ?_)⟩
      have hin : z ∈ (D j).weights Tryd.prog 47 := by
        rw [hDi]
        simp only [DataW.weights, Tryd.underlying47]
        simp [DataW.weightsEach, hz]
      have hmem : z ∈ DataW.weightsAll Tryd.prog 47 ((List.range len0).map D) := mem_weightsAll (List.mem_map.2 ⟨j, List.mem_range.2 hj, rfl⟩) hin
      simp [DataW.weights, Tryd.underlying39, hmem]
end
end Go.Proofs.YtpbakejocjmkeaaDoor
