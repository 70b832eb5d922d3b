/-
  Layer 8 (shake): how a side is made, and calls of it, read out of memory.
-/
import Derived.Test.YtmnibmgbicnamaaGreatDoorLSPair
import Derived.Test.YtmnibmgbicnamaaGreatDoorLSKnows
import Derived.Deep.SlicePairs
namespace Go.Proofs.YtmnibmgbicnamaaGreatDoor
open Go.ChangeShapes Go.WideShapes Go.RowKit

section
variable {H : Type} {enc : TypeId × Value → H} {W : World}
theorem Tryz.oneBool : Tryz.prog.cellsOf 4 = 1 := by kernel_rfl
theorem Tryz.sevenStart : Tryz.prog.cellsOf 48 = 7 := by kernel_rfl
theorem Tryz.cellsOp8 : Tryz.prog.cellsOf 55 = 2 := by kernel_rfl
theorem Tryz.bytesOp8 : Tryz.prog.bytesOf 55 = 40 := by kernel_rfl
theorem Tryz.oneBytes : Tryz.prog.cellsOf 25 = 1 := by kernel_rfl
set_option maxRecDepth 100000 in
/-- How a side is made. -/
theorem start_of_trod {v : Value} {d : DataW H} {p : List MemPlace} {base : Nat} (hv : Value.okWide Tryz.prog W .any base 48 v) (h : DataW.Trod enc Tryz.prog W 0 (fun _ => true) true 48 v d p) (hsz : ∀ k ∈ d.weights Tryz.prog 48, k ≤ reachBytes) :
    ∃ (bg : Bool) (me : Pr) (peer cookie : ByteArray) (ch : Nat), v = startV bg me peer cookie ch ∧ me.Ok ∧ ch < 4294967296 ∧ me.name.size ≤ 4611686018427387904 ∧ peer.size ≤ 4611686018427387904 ∧ cookie.size ≤ 4611686018427387904 := by
  obtain ⟨cs, rfl, hcs⟩ := okWide_struct Tryz.underlying48 hv
  obtain ⟨x0, x1, x2, x3, x4, x5, x6, rfl⟩ := array7 (hcs.trans Tryz.sevenStart)
  obtain ⟨fuel, hf⟩ := h
  obtain ⟨xs, m, _, hx, _, hlen, hf⟩ := DataW.trod_struct Tryz.underlying48 hf
  match xs, hlen with
  | [y0, y1, y2, y3, y4], _ =>
    have g0 := hf 0 _ rfl
    have g1 := hf 1 _ rfl
    have g2 := hf 2 _ rfl
    have g3 := hf 3 _ rfl
    have g4 := hf 4 _ rfl
    simp [Tryz.oneBool, Value.cells] at g0
    simp [Tryz.threePeer, Value.cells] at g1
    simp [Tryz.oneStr, Value.cells] at g2
    simp [Tryz.oneStr, Value.cells] at g3
    simp [Tryz.oneU32, Value.cells] at g4
    simp only [Prod.mk.injEq] at hx
    obtain ⟨hd, _⟩ := hx
    subst hd
    have hw : ∀ (t : TypeId) (y : DataW H), (t, y) ∈ [(46, y1.1), (9, y2.1), (9, y3.1)] → ∀ z ∈ y.weights Tryz.prog t, z ≤ reachBytes := by
      intro t y hy z hz
      refine hsz z ?_
      simp only [List.map_cons, DataW.weights, Tryz.underlying48]
      simp only [List.mem_cons, Prod.mk.injEq, List.not_mem_nil, or_false] at hy
      rcases hy with ⟨rfl, rfl⟩ | ⟨rfl, rfl⟩ | ⟨rfl, rfl⟩ <;> simp [DataW.weightsEach, hz]
    obtain ⟨bg, hbg, _⟩ := DataW.trod_bool Tryz.underlying4 g0
    have hbg : x0 = .bool bg := by simpa using hbg
    subst hbg
    obtain ⟨me, rfl, rfl, rfl, hme, hns⟩ := trod_peer g1 (hw _ _ (by simp))
    obtain ⟨peer, rfl, hps⟩ := trod_text Tryz.underlying9 g2 (hw _ _ (by simp))
    obtain ⟨cookie, rfl, hck⟩ := trod_text Tryz.underlying9 g3 (hw _ _ (by simp))
    obtain ⟨ch, rfl, hch⟩ := trod_u32 g4
    exact ⟨bg, me, peer, cookie, ch, rfl, hme, hch, hns, hps, hck⟩
theorem mem_weightsAll8 {P : Program} {e : TypeId} {d : DataW H} {l : List (DataW H)} (hd : d ∈ l) {k : Nat} (hk : k ∈ d.weights P e) : k ∈ DataW.weightsAll P e l := by
  induction l with
  | nil => cases hd
  | cons x r ih =>
    simp only [DataW.weightsAll, List.mem_append]
    rcases List.mem_cons.1 hd with rfl | h
    · exact .inl hk
    · exact .inr (ih h)
set_option maxRecDepth 100000 in
/-- Calls of a side. -/
theorem ops_of_trod {v : Value} {d : DataW H} {p : List MemPlace} {base : Nat} (hv : Value.okWide Tryz.prog W .any base 49 v) (h : DataW.Trod enc Tryz.prog W 0 (fun _ => true) true 49 v d p) (hsz : ∀ k ∈ d.weights Tryz.prog 49, k ≤ reachBytes) : ∃ l, OpsAt W v l := by
  obtain ⟨a0, len0, cap0, rfl⟩ := okWide_slice Tryz.underlying49 hv
  obtain ⟨fuel, hf⟩ := h
  rcases Deep.open_slice_pairs Tryz.underlying49 Tryz.underlying55 Tryz.cellsOp8 rfl rfl Tryz.oneBytes Tryz.oneStr hf with ⟨hx, _⟩ | ⟨a, len, cap, m, n', V0, V1, D0, D1, P0, P1, hx, _, hl, hm, hmm, hd, hc⟩
  · simp [Value.cells] at hx
    obtain ⟨rfl, rfl, rfl⟩ := hx
    exact ⟨[], .inl ⟨_, _, rfl, rfl⟩⟩
  · simp [Value.cells] at hx
    obtain ⟨rfl, rfl, rfl⟩ := hx
    simp only [if_true] at hmm
    subst hmm
    simp only [Prod.mk.injEq] at hd
    obtain ⟨rfl, _⟩ := hd
    by_cases h0 : len0 = 0
    · subst h0
      exact ⟨[], .inl ⟨_, _, rfl, rfl⟩⟩
    obtain ⟨b, off, spot⟩ := a
    have hspot : spot = none := by simpa [Addr.add] using World.cell?_spot (hc 0 (by omega)).1
    subst hspot
    have hlen : len0 ≤ 140737488355328 := by
      have := hsz ((((List.range len0).map fun i => DataW.agg [D0 i, D1 i]).length + ((List.range (m - len0)).map fun j => DataW.agg [D0 (len0 + j), D1 (len0 + j)]).length) * Tryz.prog.bytesOf 55) (by simp [DataW.weights, Tryz.underlying49])
      rw [Tryz.bytesOp8] at this
      simp [reachBytes] at this
      omega
    have hone : ∀ i, i < len0 → ∃ x : Op8, ∃ D, OpAt W b (off + i * 2) x D := fun i hi => by
      obtain ⟨e0, e1, t0, t1⟩ := hc i (by omega)
      have hwi : ∀ (t : TypeId) (y : DataW H), (t, y) ∈ [(25, D0 i), (9, D1 i)] → ∀ z ∈ y.weights Tryz.prog t, z ≤ reachBytes := by
        intro t y hy z hz
        refine hsz z ?_
        have hmem : DataW.agg [D0 i, D1 i] ∈ ((List.range len0).map fun i => DataW.agg [D0 i, D1 i]) := List.mem_map.2 ⟨i, List.mem_range.2 hi, rfl⟩
        have hk : z ∈ (DataW.agg [D0 i, D1 i]).weights Tryz.prog 55 := by
          simp only [DataW.weights, Tryz.underlying55]
          simp only [List.mem_cons, Prod.mk.injEq, List.not_mem_nil, or_false] at hy
          rcases hy with ⟨rfl, rfl⟩ | ⟨rfl, rfl⟩ <;> simp [DataW.weightsEach, hz]
        simp only [DataW.weights, Tryz.underlying49]
        exact List.mem_cons_of_mem _ (List.mem_append_left _ (mem_weightsAll8 hmem hk))
      obtain ⟨bs, hbs, hpl, hrg⟩ := field_of_trod t0
      obtain ⟨st, hst, _⟩ := trod_text Tryz.underlying9 t1 (hwi _ _ (by simp))
      rw [Addr.add_lit] at e0 e1
      rw [hst] at e1
      exact ⟨⟨bs, st⟩, V0 i, ⟨e0, e1, hbs, hrg, Nat.le_trans hpl (places_small (hwi _ _ (by simp)))⟩⟩
    have hin : Inhabited Op8 := ⟨⟨[], ⟨#[]⟩⟩⟩
    obtain ⟨f, hf⟩ := Deep.choose_lt hone
    refine ⟨(List.range len0).map f, .inr ⟨b, off, m, by simp, by simpa using hlen, fun j hj => ?_⟩⟩
    have hj : j < len0 := by simpa using hj
    simpa using hf j hj
end
end Go.Proofs.YtmnibmgbicnamaaGreatDoor
