/-
  Layer 11 (parse): nodes of bulk at most 1048576, read out of memory, whole.
-/
import Derived.Test.YtipdmmncgenppaaGreatDoorPArgs
import Derived.Test.YtipdmmncgenppaaGreatDoorPSmM
namespace Go.Proofs.YtipdmmncgenppaaGreatDoor
open Go.ChangeShapes Go.WideShapes Go.RowKit

theorem Tryz.cellsKind : Tryz.prog.cellsOf 32 = 1 := by kernel_rfl
theorem Tryz.cellsStr : Tryz.prog.cellsOf 9 = 1 := by kernel_rfl
theorem Tryz.cellsI64 : Tryz.prog.cellsOf 2 = 1 := by kernel_rfl
section
variable {H : Type} {enc : TypeId × Value → H} {W : World}
theorem pbulk_pos (d : DataW H) : 1 ≤ Rows.uptoBulk d := by
  cases d with
  | lit l => cases l <;> simp [Rows.uptoBulk]
  | nil => simp [Rows.uptoBulk]
  | ptr d => simp [Rows.uptoBulk]
  | slice elems spare => simp [Rows.uptoBulk]
  | agg parts => simp [Rows.uptoBulk]
  | iface t d => simp [Rows.uptoBulk]
  | map entries => simp [Rows.uptoBulk]
  | held h => simp [Rows.uptoBulk]
theorem pbulk_mem {d : DataW H} : ∀ {l : List (DataW H)}, d ∈ l → Rows.uptoBulk d ≤ Rows.uptoBulkAll l
  | x :: r, h => by
    simp only [Rows.uptoBulkAll]
    rcases List.mem_cons.1 h with rfl | h
    · omega
    · have := pbulk_mem h; omega
theorem pbulk_len : ∀ l : List (DataW H), l.length ≤ Rows.uptoBulkAll l
  | [] => Nat.zero_le _
  | x :: r => by
    have := pbulk_pos x
    have := pbulk_len r
    simp only [Rows.uptoBulkAll, List.length_cons]
    omega
set_option maxRecDepth 100000 in
theorem intsU_of_trod {n : Nat} {x : Value} {y : DataW H × List MemPlace} (h : DataW.trod enc Tryz.prog W 0 (fun _ => true) true n 23 [x] = some y) (hsz : Rows.uptoBulk y.1 ≤ 1048576) : ∃ l, SlA W x l ∧ l.length ≤ 1048576 := by
  rcases Deep.open_slice1 Tryz.underlying23 Tryz.cellsInt h with ⟨hx, rfl⟩ | ⟨a, len, cap, m, n', V, D, Pl, hx, _, hl, hm, hmm, rfl, hc⟩
  · simp only [List.cons.injEq, and_true] at hx
    subst hx
    exact ⟨[], .inl ⟨none, 0, rfl, rfl⟩, by simp⟩
  · simp only [List.cons.injEq, and_true] at hx
    subst hx
    simp only [if_true] at hmm
    subst hmm
    have hlen : len ≤ 1048576 := by
      have := pbulk_len ((List.range len).map D)
      simp only [Rows.uptoBulk, List.length_map, List.length_range] at hsz this
      omega
    by_cases h0 : len = 0
    · subst h0
      exact ⟨[], .inl ⟨some a, m, rfl, rfl⟩, by simp⟩
    obtain ⟨b, off, spot⟩ := a
    have hspot : spot = none := by simpa [Addr.add] using World.cell?_spot (hc 0 (by omega)).1
    subst hspot
    have hz : ∀ i, i < len → ∃ z : Int, V i = .int .i64 z := fun i hi => by
      obtain ⟨z, hz, _, _⟩ := DataW.trod_int Tryz.underlying3 (hc i (by omega)).2
      simp only [List.cons.injEq, and_true] at hz
      exact ⟨z, hz⟩
    obtain ⟨z, hz⟩ := Deep.choose_lt hz
    refine ⟨(List.range len).map z, .inr ⟨b, off, m, by simp, by simp; omega, fun j hj => ?_⟩, by simpa using hlen⟩
    have hj : j < len := by simpa using hj
    have := (hc j (by omega)).1
    rw [Addr.add_lit] at this
    rw [this, hz j hj]
    simp
set_option maxRecDepth 100000 in
/-- Nodes. -/
theorem nodesU_of_trod {v : Value} {d : DataW H} {p : List MemPlace} {base : Nat} (hv : Value.okWide Tryz.prog W .any base 22 v) (h : DataW.Trod enc Tryz.prog W 0 (fun _ => true) true 22 v d p) (hsz : Rows.uptoBulk d ≤ 1048576) : ∃ N, NdOk W v N := by
  obtain ⟨a0, len0, cap0, rfl⟩ := okWide_slice Tryz.underlying22 hv
  obtain ⟨fuel, hf⟩ := h
  rcases Deep.open_slice Tryz.underlying22 hf with ⟨hx, _⟩ | ⟨a, len, cap, m, n, D, Pl, hx, _, hl, hm, hmm, hd, hc⟩
  · simp [Value.cells] at hx
    obtain ⟨rfl, rfl, rfl⟩ := hx
    exact ⟨[], .inl ⟨_, _, rfl, rfl⟩, by simp, by simp⟩
  · simp [Value.cells] at hx
    obtain ⟨rfl, rfl, rfl⟩ := hx
    simp only [if_true] at hmm
    subst hmm
    simp only [Prod.mk.injEq] at hd
    obtain ⟨rfl, _⟩ := hd
    by_cases h0 : len0 = 0
    · subst h0
      exact ⟨[], .inl ⟨_, _, rfl, rfl⟩, by simp, by simp⟩
    have hbl : Rows.uptoBulkAll ((List.range len0).map D) ≤ 1048576 := by
      simp only [Rows.uptoBulk] at hsz
      omega
    have hlen : len0 ≤ 1048576 := by
      have := pbulk_len ((List.range len0).map D)
      simp only [List.length_map, List.length_range] at this
      omega
    obtain ⟨b, off, spot⟩ := a
    have hspot : spot = none := by
      obtain ⟨cs', h1, _⟩ := hc 0 (by omega)
      rw [Tryz.cellsNode] at h1
      obtain ⟨_, hl6, hcell⟩ := World.cells?_some h1
      have e := hcell 0 (by omega)
      match cs', hl6 with
      | v0 :: r, _ =>
        have e' : W.cell? (((⟨b, off, spot⟩ : Addr).add (0 * 6)).add 0) = some v0 := by simpa using e
        have hs := World.cell?_spot e'
        cases spot with
        | none => rfl
        | some q => simp [Addr.add] at hs
    subst hspot
    have hone : ∀ i, i < len0 → ∃ x : Nd, (∀ q, q < 6 → W.cell? ⟨b, off + i * 6 + q, none⟩ = x.cells[q]?) ∧ SlA W x.kv x.kids ∧ x.kids.length ≤ 1048576 := fun i hi => by
      obtain ⟨cs', h1, h2⟩ := hc i (by omega)
      rw [Tryz.cellsNode] at h1
      obtain ⟨_, hl6, hcell⟩ := World.cells?_some h1
      obtain ⟨xs, k, hk, hxy, _, hxl, hff⟩ := DataW.trod_struct Tryz.underlying34 h2
      match xs, hxl, cs', hl6 with
      | [y0, y1, y2, y3, y4, y5], _, [v0, v1, v2, v3, v4, v5], _ =>
        have g0 := hff 0 _ rfl
        have g1 := hff 1 _ rfl
        have g2 := hff 2 _ rfl
        have g3 := hff 3 _ rfl
        have g4 := hff 4 _ rfl
        have g5 := hff 5 _ rfl
        simp [Tryz.cellsKind] at g0
        simp [Tryz.cellsStr] at g1 g2
        simp [Tryz.cellsI64] at g3
        simp [Tryz.cellsInts] at g4
        simp [Tryz.cellsInt] at g5
        simp only [Prod.mk.injEq] at hxy
        have hwi : Rows.uptoBulk y4.1 ≤ 1048576 := by
          have e1 := pbulk_mem (d := D i) (l := (List.range len0).map D) (List.mem_map.2 ⟨i, List.mem_range.2 hi, rfl⟩)
          rw [hxy.1] at e1
          simp only [List.map_cons, List.map_nil, Rows.uptoBulk, Rows.uptoBulkAll] at e1
          omega
        obtain ⟨l, hl, hll⟩ := intsU_of_trod g4 hwi
        obtain ⟨z0, e0, _, _⟩ := DataW.trod_int Tryz.underlying32 g0
        obtain ⟨z1, e1, _, _⟩ := DataW.trod_string Tryz.underlying9 g1
        obtain ⟨z2, e2, _, _⟩ := DataW.trod_string Tryz.underlying9 g2
        obtain ⟨z3, e3, _, _⟩ := DataW.trod_int Tryz.underlying2 g3
        obtain ⟨z5, e5, _, _⟩ := DataW.trod_int Tryz.underlying3 g5
        simp only [List.cons.injEq, and_true] at e0 e1 e2 e3 e5
        subst e0 e1 e2 e3 e5
        refine ⟨⟨z0, z1, z2, z3, v4, l, z5⟩, fun q hq => ?_, hl, hll⟩
        have eq := hcell q (by simpa using hq)
        rw [Addr.add_lit, Addr.add_lit] at eq
        rw [eq]
        rfl
    have hin : Inhabited Nd := ⟨⟨0, ⟨#[]⟩, ⟨#[]⟩, 0, .slice none 0 0, [], 0⟩⟩
    obtain ⟨f, hf⟩ := Deep.choose_lt hone
    refine ⟨(List.range len0).map f, .inr ⟨b, off, m, by simp, fun j hj => ?_⟩, by simpa using hlen, fun x hx => ?_⟩
    · have hj : j < len0 := by simpa using hj
      simpa using ⟨(hf j hj).1, (hf j hj).2.1⟩
    · obtain ⟨j, hj, rfl⟩ := List.mem_map.1 hx
      exact (hf j (List.mem_range.1 hj)).2.2
end
end Go.Proofs.YtipdmmncgenppaaGreatDoor
