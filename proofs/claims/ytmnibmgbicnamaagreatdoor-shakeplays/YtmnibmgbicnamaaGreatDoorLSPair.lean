/-
  Layer 8 (shake): a node and two nodes with their cookies and challenges, read out of memory.
-/
import Derived.Test.YtmnibmgbicnamaaGreatDoorKg
import Derived.Test.YtmnibmgbicnamaaGreatDoorLSMeets
namespace Go.Proofs.YtmnibmgbicnamaaGreatDoor
open Go.ChangeShapes Go.WideShapes Go.RowKit

section
variable {H : Type} {enc : TypeId × Value → H} {W : World}
theorem Tryz.oneStr : Tryz.prog.cellsOf 9 = 1 := by kernel_rfl
theorem Tryz.oneU64 : Tryz.prog.cellsOf 23 = 1 := by kernel_rfl
theorem Tryz.oneU32 : Tryz.prog.cellsOf 24 = 1 := by kernel_rfl
theorem Tryz.threePeer : Tryz.prog.cellsOf 46 = 3 := by kernel_rfl
theorem Tryz.twoStr : Tryz.prog.cellsOf 71 = 2 := by kernel_rfl
theorem Tryz.twoU32 : Tryz.prog.cellsOf 72 = 2 := by kernel_rfl
theorem Tryz.tenPair : Tryz.prog.cellsOf 74 = 10 := by kernel_rfl
set_option maxRecDepth 100000 in
/-- A node. -/
theorem trod_peer {n : Nat} {x0 x1 x2 : Value} {y : DataW H × List MemPlace} (h : DataW.trod enc Tryz.prog W 0 (fun _ => true) true n 46 [x0, x1, x2] = some y) (hsz : ∀ k ∈ y.1.weights Tryz.prog 46, k ≤ reachBytes) :
    ∃ p : Pr, x0 = .string p.name ∧ x1 = .int .u64 p.flags ∧ x2 = .int .u32 p.creation ∧ p.Ok ∧ p.name.size ≤ 4611686018427387904 := by
  obtain ⟨xs, m, _, hx, _, hlen, hf⟩ := DataW.trod_struct Tryz.underlying46 h
  match xs, hlen with
  | [y0, y1, y2], _ =>
    have g0 := hf 0 _ rfl
    have g1 := hf 1 _ rfl
    have g2 := hf 2 _ rfl
    simp [Tryz.oneStr] at g0
    simp [Tryz.oneU64] at g1
    simp [Tryz.oneU32] at g2
    subst hx
    have hw : ∀ z ∈ y0.1.weights Tryz.prog 9, z ≤ reachBytes := fun z hz => hsz z (by simp only [List.map_cons, DataW.weights, Tryz.underlying46]; simp [DataW.weightsEach, hz])
    obtain ⟨nm, rfl, hnm⟩ := trod_text Tryz.underlying9 g0 hw
    obtain ⟨fl, rfl, f1, f2⟩ := trod_num Tryz.underlying23 g1
    obtain ⟨cr, rfl, c1, c2⟩ := trod_num Tryz.underlying24 g2
    have e0 : IntKind.u64.min = 0 := by decide
    have e1 : IntKind.u64.max = 18446744073709551615 := by decide
    have e2 : IntKind.u32.min = 0 := by decide
    have e3 : IntKind.u32.max = 4294967295 := by decide
    rw [e0] at f1
    rw [e1] at f2
    rw [e2] at c1
    rw [e3] at c2
    exact ⟨⟨nm, fl, cr⟩, rfl, rfl, rfl, ⟨⟨f1, Int.lt_of_le_of_lt f2 (by decide)⟩, ⟨c1, Int.lt_of_le_of_lt c2 (by decide)⟩⟩, hnm⟩
theorem trod_u32 {n : Nat} {x : Value} {y : DataW H × List MemPlace} (h : DataW.trod enc Tryz.prog W 0 (fun _ => true) true n 24 [x] = some y) : ∃ z : Nat, x = .int .u32 z ∧ z < 4294967296 := by
  obtain ⟨z, rfl, c1, c2⟩ := trod_num Tryz.underlying24 h
  have e2 : IntKind.u32.min = 0 := by decide
  have e3 : IntKind.u32.max = 4294967295 := by decide
  rw [e2] at c1
  rw [e3] at c2
  exact ⟨z.toNat, by rw [Int.toNat_of_nonneg c1], by omega⟩
theorem array10 {α : Type} {cs : Array α} (h : cs.size = 10) : ∃ c0 c1 c2 c3 c4 c5 c6 c7 c8 c9, cs = #[c0, c1, c2, c3, c4, c5, c6, c7, c8, c9] := by
  obtain ⟨l⟩ := cs
  match l, h with
  | [c0, c1, c2, c3, c4, c5, c6, c7, c8, c9], _ => exact ⟨c0, c1, c2, c3, c4, c5, c6, c7, c8, c9, rfl⟩
set_option maxRecDepth 100000 in
/-- Two nodes, their cookies and challenges. -/
theorem pair_of_trod {v : Value} {d : DataW H} {p : List MemPlace} {base : Nat} (hv : Value.okWide Tryz.prog W .any base 74 v) (h : DataW.Trod enc Tryz.prog W 0 (fun _ => true) true 74 v d p) (hsz : ∀ k ∈ d.weights Tryz.prog 74, k ≤ reachBytes) :
    ∃ (a b : Pr) (c0 c1 : ByteArray) (n0 n1 : Nat), v = pairV a b c0 c1 n0 n1 ∧ a.Ok ∧ b.Ok ∧ n0 < 4294967296 ∧ n1 < 4294967296 ∧ a.name.size ≤ 4611686018427387904 ∧ b.name.size ≤ 4611686018427387904 ∧ c0.size ≤ 4611686018427387904 ∧ c1.size ≤ 4611686018427387904 := by
  obtain ⟨cs, rfl, hcs⟩ := okWide_struct Tryz.underlying74 hv
  obtain ⟨x0, x1, x2, x3, x4, x5, x6, x7, x8, x9, rfl⟩ := array10 (hcs.trans Tryz.tenPair)
  obtain ⟨fuel, hf⟩ := h
  obtain ⟨xs, m, _, hx, _, hlen, hf⟩ := DataW.trod_struct Tryz.underlying74 hf
  match xs, hlen with
  | [y0, y1, y2, y3], _ =>
    have g0 := hf 0 _ rfl
    have g1 := hf 1 _ rfl
    have g2 := hf 2 _ rfl
    have g3 := hf 3 _ rfl
    simp [Tryz.threePeer, Value.cells] at g0
    simp [Tryz.threePeer, Value.cells] at g1
    simp [Tryz.twoStr, Value.cells] at g2
    simp [Tryz.twoU32, Value.cells] at g3
    simp only [Prod.mk.injEq] at hx
    obtain ⟨hd, _⟩ := hx
    subst hd
    have hw : ∀ (t : TypeId) (y : DataW H), (t, y) ∈ [(46, y0.1), (46, y1.1), (71, y2.1)] → ∀ z ∈ y.weights Tryz.prog t, z ≤ reachBytes := by
      intro t y hy z hz
      refine hsz z ?_
      simp only [List.map_cons, DataW.weights, Tryz.underlying74]
      simp only [List.mem_cons, Prod.mk.injEq, List.not_mem_nil, or_false] at hy
      rcases hy with ⟨rfl, rfl⟩ | ⟨rfl, rfl⟩ | ⟨rfl, rfl⟩ <;> simp [DataW.weightsEach, hz]
    obtain ⟨a, rfl, rfl, rfl, ha, has⟩ := trod_peer g0 (hw _ _ (by simp))
    obtain ⟨b, rfl, rfl, rfl, hb, hbs⟩ := trod_peer g1 (hw _ _ (by simp))
    obtain ⟨zs, m2, _, hx2, _, hl2, hf2⟩ := DataW.trod_array Tryz.underlying71 g2
    obtain ⟨zn, m3, _, hx3, _, hl3, hf3⟩ := DataW.trod_array Tryz.underlying72 g3
    match zs, hl2, zn, hl3 with
    | [z0, z1], _, [q0, q1], _ =>
      have s0 := hf2 0 (by omega)
      have s1 := hf2 1 (by omega)
      have u0 := hf3 0 (by omega)
      have u1 := hf3 1 (by omega)
      simp [Tryz.oneStr] at s0 s1
      simp [Tryz.oneU32] at u0 u1
      have hw2 : ∀ y, y ∈ [z0.1, z1.1] → ∀ z ∈ y.weights Tryz.prog 9, z ≤ reachBytes := by
        intro y hy z hz
        refine hw 71 y2.1 (by simp) z ?_
        rw [hx2]
        simp only [List.map_cons, List.map_nil, DataW.weights, Tryz.underlying71]
        simp only [List.mem_cons, List.not_mem_nil, or_false] at hy
        rcases hy with rfl | rfl <;> simp [DataW.weightsAll, hz]
      obtain ⟨c0, rfl, hc0⟩ := trod_text Tryz.underlying9 s0 (hw2 _ (by simp))
      obtain ⟨c1, rfl, hc1⟩ := trod_text Tryz.underlying9 s1 (hw2 _ (by simp))
      obtain ⟨n0, rfl, hn0⟩ := trod_u32 u0
      obtain ⟨n1, rfl, hn1⟩ := trod_u32 u1
      exact ⟨a, b, c0, c1, n0, n1, rfl, ha, hb, hn0, hn1, has, hbs, hc0, hc1⟩
end
end Go.Proofs.YtmnibmgbicnamaaGreatDoor
