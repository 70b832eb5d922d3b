/-
  Layer 11 (parse): nodes and numbers, read out of memory.
-/
import Derived.Test.YtipdmmncgenppaaGreatDoorPRowBase
namespace Go.Proofs.YtipdmmncgenppaaGreatDoor
open Go.ChangeShapes Go.WideShapes Go.RowKit

theorem Tryz.cellsInt : Tryz.prog.cellsOf 3 = 1 := by kernel_rfl
theorem Tryz.bytesInt : Tryz.prog.bytesOf 3 = 8 := by kernel_rfl
theorem Tryz.cellsInts : Tryz.prog.cellsOf 23 = 1 := by kernel_rfl
theorem Tryz.cellsNode : Tryz.prog.cellsOf 34 = 6 := by kernel_rfl
theorem Tryz.bytesNode : Tryz.prog.bytesOf 34 = 80 := by kernel_rfl
section
variable {H : Type} {enc : TypeId × Value → H} {W : World}
theorem mem_weightsAllP {P : Program} {e : TypeId} {d : DataW H} {l : List (DataW H)} (hd : d ∈ l) {k : Nat} (hk : k ∈ d.weights P e) : k ∈ DataW.weightsAll P e l := by
  induction l with
  | nil => cases hd
  | cons x r ih =>
    simp only [DataW.weightsAll, List.mem_append]
    rcases List.mem_cons.1 hd with rfl | h
    · exact .inl hk
    · exact .inr (ih h)
set_option maxRecDepth 100000 in
theorem ints_of_trod {n : Nat} {x : Value} {y : DataW H × List MemPlace} (h : DataW.trod enc Tryz.prog W 0 (fun _ => true) true n 23 [x] = some y) (hsz : ∀ k ∈ y.1.weights Tryz.prog 23, k ≤ reachBytes) : ∃ l, SlA W x l := by
  rcases Deep.open_slice1 Tryz.underlying23 Tryz.cellsInt h with ⟨hx, rfl⟩ | ⟨a, len, cap, m, n', V, D, Pl, hx, _, hl, hm, hmm, rfl, hc⟩
  · simp only [List.cons.injEq, and_true] at hx
    subst hx
    exact ⟨[], .inl ⟨none, 0, rfl, rfl⟩⟩
  · simp only [List.cons.injEq, and_true] at hx
    subst hx
    simp only [if_true] at hmm
    subst hmm
    have hlen : len ≤ 4611686018427387903 := by
      have := hsz ((((List.range len).map D).length + ((List.range (m - len)).map fun j => D (len + j)).length) * Tryz.prog.bytesOf 3) (by simp [DataW.weights, Tryz.underlying23])
      rw [Tryz.bytesInt] at this
      simp [reachBytes] at this
      omega
    by_cases h0 : len = 0
    · subst h0
      exact ⟨[], .inl ⟨some a, m, rfl, rfl⟩⟩
    obtain ⟨b, off, spot⟩ := a
    have hspot : spot = none := by simpa [Addr.add] using World.cell?_spot (hc 0 (by omega)).1
    subst hspot
    have hz : ∀ i, i < len → ∃ z : Int, V i = .int .i64 z := fun i hi => by
      obtain ⟨z, hz, _, _⟩ := DataW.trod_int Tryz.underlying3 (hc i (by omega)).2
      simp only [List.cons.injEq, and_true] at hz
      exact ⟨z, hz⟩
    obtain ⟨z, hz⟩ := Deep.choose_lt hz
    refine ⟨(List.range len).map z, .inr ⟨b, off, m, by simp, by simpa using hlen, fun j hj => ?_⟩⟩
    have hj : j < len := by simpa using hj
    have := (hc j (by omega)).1
    rw [Addr.add_lit] at this
    rw [this, hz j hj]
    simp
set_option maxRecDepth 100000 in
/-- Numbers. -/
theorem nums_of_trod {v : Value} {d : DataW H} {p : List MemPlace} {base : Nat} (hv : Value.okWide Tryz.prog W .any base 23 v) (h : DataW.Trod enc Tryz.prog W 0 (fun _ => true) true 23 v d p) (hsz : ∀ k ∈ d.weights Tryz.prog 23, k ≤ reachBytes) : ∃ l, SlA W v l := by
  obtain ⟨a0, len0, cap0, rfl⟩ := okWide_slice Tryz.underlying23 hv
  obtain ⟨fuel, hf⟩ := h
  exact ints_of_trod (y := (d, p)) (by simpa [Value.cells] using hf) hsz
set_option maxRecDepth 100000 in
/-- Nodes. -/
theorem nodes_of_trod {v : Value} {d : DataW H} {p : List MemPlace} {base : Nat} (hv : Value.okWide Tryz.prog W .any base 22 v) (h : DataW.Trod enc Tryz.prog W 0 (fun _ => true) true 22 v d p) (hsz : ∀ k ∈ d.weights Tryz.prog 22, k ≤ reachBytes) : ∃ K, NArg W v K ∧ K.length ≤ 2199023255552 := by
  obtain ⟨a0, len0, cap0, rfl⟩ := okWide_slice Tryz.underlying22 hv
  obtain ⟨fuel, hf⟩ := h
  rcases Deep.open_slice Tryz.underlying22 hf with ⟨hx, _⟩ | ⟨a, len, cap, m, n, D, Pl, hx, _, hl, hm, hmm, hd, hc⟩
  · simp [Value.cells] at hx
    obtain ⟨rfl, rfl, rfl⟩ := hx
    exact ⟨[], .inl ⟨_, _, rfl, rfl⟩, by simp⟩
  · simp [Value.cells] at hx
    obtain ⟨rfl, rfl, rfl⟩ := hx
    simp only [if_true] at hmm
    subst hmm
    simp only [Prod.mk.injEq] at hd
    obtain ⟨rfl, _⟩ := hd
    by_cases h0 : len0 = 0
    · subst h0
      exact ⟨[], .inl ⟨_, _, rfl, rfl⟩, by simp⟩
    have hlen : len0 ≤ 2199023255552 := by
      have := hsz ((((List.range len0).map D).length + ((List.range (m - len0)).map fun j => D (len0 + j)).length) * Tryz.prog.bytesOf 34) (by simp [DataW.weights, Tryz.underlying22])
      rw [Tryz.bytesNode] at this
      simp [reachBytes] at this
      omega
    obtain ⟨b, off, spot⟩ := a
    have hspot : spot = none := by
      obtain ⟨cs', h1, _⟩ := hc 0 (by omega)
      rw [Tryz.cellsNode] at h1
      obtain ⟨_, hl6, hcell⟩ := World.cells?_some h1
      have e := hcell 0 (by omega)
      match cs', hl6 with
      | v0 :: r, _ =>
        have e' : W.cell? (((⟨b, off, spot⟩ : Addr).add (0 * 6)).add 0) = some v0 := by simpa using e
        have hs := World.cell?_spot e'
        cases spot with
        | none => rfl
        | some q => simp [Addr.add] at hs
    subst hspot
    have hone : ∀ i, i < len0 → ∃ x : Value × List Int, W.cell? ⟨b, off + i * 6 + 4, none⟩ = some x.1 ∧ SlA W x.1 x.2 := fun i hi => by
      obtain ⟨cs', h1, h2⟩ := hc i (by omega)
      rw [Tryz.cellsNode] at h1
      obtain ⟨_, hl6, hcell⟩ := World.cells?_some h1
      obtain ⟨xs, k, hk, hxy, _, hxl, hff⟩ := DataW.trod_struct Tryz.underlying34 h2
      match xs, hxl, cs', hl6 with
      | [y0, y1, y2, y3, y4, y5], _, [v0, v1, v2, v3, v4, v5], _ =>
        have g4 := hff 4 _ rfl
        simp [Tryz.cellsInts] at g4
        have e4 := hcell 4 (by omega)
        rw [Addr.add_lit, Addr.add_lit] at e4
        simp only [Prod.mk.injEq] at hxy
        have hwi : ∀ z ∈ y4.1.weights Tryz.prog 23, z ≤ reachBytes := fun z hz => by
          refine hsz z ?_
          have hmem : D i ∈ (List.range len0).map D := List.mem_map.2 ⟨i, List.mem_range.2 hi, rfl⟩
          have hk : z ∈ (D i).weights Tryz.prog 34 := by
            rw [hxy.1]
            simp only [List.map_cons, List.map_nil, DataW.weights, Tryz.underlying34]
            simp [DataW.weightsEach, hz]
          simp only [DataW.weights, Tryz.underlying22]
          exact List.mem_cons_of_mem _ (List.mem_append_left _ (mem_weightsAllP hmem hk))
        obtain ⟨l, hl⟩ := ints_of_trod g4 hwi
        exact ⟨(v4, l), by simpa using e4, hl⟩
    have hin : Inhabited (Value × List Int) := ⟨(.slice none 0 0, [])⟩
    obtain ⟨f, hf⟩ := Deep.choose_lt hone
    refine ⟨(List.range len0).map f, .inr ⟨b, off, m, by simp, fun j hj => ?_⟩, by simpa using hlen⟩
    have hj : j < len0 := by simpa using hj
    simpa using hf j hj
end
end Go.Proofs.YtipdmmncgenppaaGreatDoor
