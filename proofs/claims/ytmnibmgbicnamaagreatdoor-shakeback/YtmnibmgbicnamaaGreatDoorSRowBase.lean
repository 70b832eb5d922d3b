/-
  Layer 8 (shake): what every row of the seat needs beside MRowBase: a message read out of memory.
-/
import Derived.Test.YtmnibmgbicnamaaGreatDoorMRowBase
import Derived.Test.YtmnibmgbicnamaaGreatDoorSBack
import Derived.Deep.DeepHandedRow
namespace Go.Proofs.YtmnibmgbicnamaaGreatDoor
open Go.ChangeShapes Go.WideShapes Go.RowKit

section
variable {H : Type} {enc : TypeId × Value → H} {W : World}
set_option maxRecDepth 100000 in
/-- As bytes_of_trod, of a field. -/
theorem field_of_trod {n : Nat} {x : Value} {y : DataW H × List MemPlace} (h : DataW.trod enc Tryz.prog W 0 (fun _ => true) true n 25 [x] = some y) : ∃ bs, Sl W x bs ∧ bs.length ≤ placesOf y.1 ∧ (∀ z ∈ bs, 0 ≤ z ∧ z < 256) := by
  rcases Deep.open_slice1 Tryz.underlying25 Tryz.cellsByte h with ⟨hx, rfl⟩ | ⟨a, len, cap, m, n', V, D, Pl, hx, _, hl, hm, hmm, rfl, hc⟩
  · simp only [List.cons.injEq, and_true] at hx
    subst hx
    exact ⟨[], .inl ⟨rfl, rfl⟩, Nat.zero_le _, fun z hz => by cases hz⟩
  · simp only [List.cons.injEq, and_true] at hx
    subst hx
    simp only [if_true] at hmm
    subst hmm
    by_cases h0 : m = 0
    · subst h0
      have : len = 0 := by omega
      subst this
      exact ⟨[], .inr (.inl ⟨a, rfl, rfl⟩), Nat.zero_le _, fun z hz => by cases hz⟩
    · obtain ⟨b, off, spot⟩ := a
      have hspot : spot = none := by simpa [Addr.add] using World.cell?_spot (hc 0 (by omega)).1
      subst hspot
      have hz : ∀ i, i < len → ∃ z : Int, V i = .int .u8 z ∧ 0 ≤ z ∧ z < 256 := fun i hi => by
        obtain ⟨z, hz, _, hw⟩ := DataW.trod_int Tryz.underlying5 (hc i (by omega)).2
        simp only [List.cons.injEq, and_true] at hz
        have hw : IntKind.u8.min ≤ z ∧ z ≤ IntKind.u8.max := by simpa [Lit.wf] using hw
        have e0 : IntKind.u8.min = 0 := by decide
        have e1 : IntKind.u8.max = 255 := by decide
        rw [e0, e1] at hw
        exact ⟨z, hz, hw.1, by omega⟩
      obtain ⟨z, hz⟩ := Deep.choose_lt hz
      refine ⟨(List.range len).map z, .inr (.inr ⟨b, off, m, by simp, by simpa using hl, hm, fun j hj => ?_⟩), ?_, fun y hy => ?_⟩
      · have hj : j < len := by simpa using hj
        have := (hc j (by omega)).1
        rw [Addr.add_lit] at this
        rw [this, (hz j hj).1]
        simp
      · simp [placesOf]
      · obtain ⟨j, hj, rfl⟩ := List.mem_map.1 hy
        exact (hz j (List.mem_range.1 hj)).2

theorem array7 {α : Type} {cs : Array α} (h : cs.size = 7) : ∃ c0 c1 c2 c3 c4 c5 c6, cs = #[c0, c1, c2, c3, c4, c5, c6] := by
  obtain ⟨l⟩ := cs
  match l, h with
  | [c0, c1, c2, c3, c4, c5, c6], _ => exact ⟨c0, c1, c2, c3, c4, c5, c6, rfl⟩
/-- A struct of seven fields of one cell each. -/
theorem open_agg7 {P : Program} {base : Nat} {spare : Nat → Bool} {held : Bool} {r : Reach} {b0 : Nat} {t : TypeId} {f0 f1 f2 f3 f4 f5 f6 : Field} {v : Value} {d : DataW H} {p : List MemPlace} (hs : P.underlying t = some (.struct #[f0, f1, f2, f3, f4, f5, f6])) (hone : Deep.oneCellFields P #[f0, f1, f2, f3, f4, f5, f6] = true) (hC : P.cellsOf t = 7)
    (hv : Value.okWide P W r b0 t v) (h : DataW.Trod enc P W base spare held t v d p) :
    ∃ (v0 v1 v2 v3 v4 v5 v6 : Value) (y0 y1 y2 y3 y4 y5 y6 : DataW H × List MemPlace) (n : Nat), v = .agg #[v0, v1, v2, v3, v4, v5, v6] ∧ d = .agg [y0.1, y1.1, y2.1, y3.1, y4.1, y5.1, y6.1] ∧
      DataW.trod enc P W base spare held n f0.type [v0] = some y0 ∧ DataW.trod enc P W base spare held n f1.type [v1] = some y1 ∧ DataW.trod enc P W base spare held n f2.type [v2] = some y2 ∧ DataW.trod enc P W base spare held n f3.type [v3] = some y3 ∧ DataW.trod enc P W base spare held n f4.type [v4] = some y4 ∧ DataW.trod enc P W base spare held n f5.type [v5] = some y5 ∧ DataW.trod enc P W base spare held n f6.type [v6] = some y6 := by
  obtain ⟨cs, rfl, hsz⟩ := okWide_struct hs hv
  obtain ⟨c0, c1, c2, c3, c4, c5, c6, rfl⟩ := array7 (hsz.trans hC)
  obtain ⟨fuel, hf⟩ := h
  obtain ⟨xs, n, _, hx, hl, hlen, hf⟩ := DataW.trod_struct hs hf
  match xs, hlen with
  | [y0, y1, y2, y3, y4, y5, y6], _ =>
    have g0 := hf 0 f0 rfl
    obtain ⟨o0, k0⟩ := Deep.hone_of hone 0 f0 rfl
    have g1 := hf 1 f1 rfl
    obtain ⟨o1, k1⟩ := Deep.hone_of hone 1 f1 rfl
    have g2 := hf 2 f2 rfl
    obtain ⟨o2, k2⟩ := Deep.hone_of hone 2 f2 rfl
    have g3 := hf 3 f3 rfl
    obtain ⟨o3, k3⟩ := Deep.hone_of hone 3 f3 rfl
    have g4 := hf 4 f4 rfl
    obtain ⟨o4, k4⟩ := Deep.hone_of hone 4 f4 rfl
    have g5 := hf 5 f5 rfl
    obtain ⟨o5, k5⟩ := Deep.hone_of hone 5 f5 rfl
    have g6 := hf 6 f6 rfl
    obtain ⟨o6, k6⟩ := Deep.hone_of hone 6 f6 rfl
    simp only [Prod.mk.injEq] at hx
    exact ⟨c0, c1, c2, c3, c4, c5, c6, y0, y1, y2, y3, y4, y5, y6, n, rfl, by simpa using hx.1, by simpa [Value.cells, o0, k0] using g0, by simpa [Value.cells, o1, k1] using g1, by simpa [Value.cells, o2, k2] using g2, by simpa [Value.cells, o3, k3] using g3, by simpa [Value.cells, o4, k4] using g4, by simpa [Value.cells, o5, k5] using g5, by simpa [Value.cells, o6, k6] using g6⟩
theorem trod_num {n : Nat} {t : TypeId} {k : IntKind} {x : Value} {y : DataW H × List MemPlace} (ht : Tryz.prog.underlying t = some (.int k)) (h : DataW.trod enc Tryz.prog W 0 (fun _ => true) true n t [x] = some y) : ∃ z : Int, x = .int k z ∧ k.min ≤ z ∧ z ≤ k.max := by
  obtain ⟨z, hz, _, hw⟩ := DataW.trod_int ht h
  have h3 : x = .int k z := by simpa using hz
  have hw : k.min ≤ z ∧ z ≤ k.max := by simpa [Lit.wf] using hw
  exact ⟨z, h3, hw.1, hw.2⟩
theorem trod_text {n : Nat} {t : TypeId} {x : Value} {y : DataW H × List MemPlace} (ht : Tryz.prog.underlying t = some .string) (h : DataW.trod enc Tryz.prog W 0 (fun _ => true) true n t [x] = some y) (hsz : ∀ k ∈ y.1.weights Tryz.prog t, k ≤ reachBytes) : ∃ s : ByteArray, x = .string s ∧ s.size ≤ 4611686018427387904 := by
  obtain ⟨s, hs, hd, _⟩ := DataW.trod_string ht h
  have h3 : x = .string s := by simpa using hs
  subst hd
  have h1 := hsz s.data.toList.length (by simp [DataW.weights])
  have h2 : s.data.toList.length = s.size := rfl
  rw [h2] at h1
  simp only [reachBytes] at h1
  exact ⟨s, h3, by omega⟩
set_option maxRecDepth 100000 in
/-- A message. -/
theorem shake_of_trod {v : Value} {d : DataW H} {p : List MemPlace} {base : Nat} (hv : Value.okWide Tryz.prog W .any base 27 v) (h : DataW.Trod enc Tryz.prog W 0 (fun _ => true) true 27 v d p) (hsz : ∀ k ∈ d.weights Tryz.prog 27, k ≤ reachBytes) :
    ∃ m D, v = msgV' m D ∧ m.Ok ∧ Sl W D m.digest ∧ m.name.size ≤ 4611686018427387904 ∧ m.status.size ≤ 4611686018427387904 ∧ m.digest.length ≤ 140737488355328 := by
  obtain ⟨v0, v1, v2, v3, v4, v5, v6, y0, y1, y2, y3, y4, y5, y6, n, rfl, rfl, t0, t1, t2, t3, t4, t5, t6⟩ := open_agg7 Tryz.underlying27 (by kernel_rfl) (by kernel_rfl) hv h
  have hw : ∀ (t : TypeId) (y : DataW H), (t, y) ∈ [(9, y4.1), (9, y5.1), (25, y6.1)] → ∀ z ∈ y.weights Tryz.prog t, z ≤ reachBytes := by
    intro t y hy z hz
    refine hsz z ?_
    simp only [DataW.weights, Tryz.underlying27]
    simp only [List.mem_cons, Prod.mk.injEq, List.not_mem_nil, or_false] at hy
    rcases hy with ⟨rfl, rfl⟩ | ⟨rfl, rfl⟩ | ⟨rfl, rfl⟩ <;> simp [DataW.weightsEach, hz]
  obtain ⟨k, rfl, _, _⟩ := trod_num Tryz.underlying22 t0
  obtain ⟨fl, rfl, f1, f2⟩ := trod_num Tryz.underlying23 t1
  obtain ⟨cr, rfl, c1, c2⟩ := trod_num Tryz.underlying24 t2
  obtain ⟨ch, rfl, g1, g2⟩ := trod_num Tryz.underlying24 t3
  obtain ⟨nm, rfl, hnm⟩ := trod_text Tryz.underlying9 t4 (hw _ _ (by simp))
  obtain ⟨st, rfl, hst⟩ := trod_text Tryz.underlying9 t5 (hw _ _ (by simp))
  obtain ⟨bs, hbs, hpl, hrg⟩ := field_of_trod t6
  have e0 : IntKind.u64.min = 0 := by decide
  have e1 : IntKind.u64.max = 18446744073709551615 := by decide
  have e2 : IntKind.u32.min = 0 := by decide
  have e3 : IntKind.u32.max = 4294967295 := by decide
  rw [e0] at f1
  rw [e1] at f2
  rw [e2] at c1 g1
  rw [e3] at c2 g2
  exact ⟨⟨k, fl, cr, ch, nm, st, bs⟩, v6, rfl, ⟨⟨f1, Int.lt_of_le_of_lt f2 (by decide)⟩, ⟨c1, Int.lt_of_le_of_lt c2 (by decide)⟩, ⟨g1, Int.lt_of_le_of_lt g2 (by decide)⟩, hrg⟩, hbs, hnm, hst, Nat.le_trans hpl (places_small (hw _ _ (by simp)))⟩
/-- Three arguments. -/
theorem trodAll_three8 {P : Program} {w : World} {base : Nat} {spare : Nat → Bool} {held : Bool} {t0 t1 t2 : TypeId} {args : Array Value} {ds : List (DataW H)} {ps : List MemPlace} (h : DataW.TrodAll enc P w base spare held [t0, t1, t2] args.toList ds ps) :
    ∃ v0 v1 v2 d0 d1 d2 p0 p1 p2, args = #[v0, v1, v2] ∧ ds = [d0, d1, d2] ∧ ps = p0 ++ (p1 ++ p2) ∧ DataW.Trod enc P w base spare held t0 v0 d0 p0 ∧ DataW.Trod enc P w base spare held t1 v1 d1 p1 ∧ DataW.Trod enc P w base spare held t2 v2 d2 p2 := by
  obtain ⟨l⟩ := args
  obtain ⟨v0, vs0, d0, ds0, p0, ps0, rfl, rfl, rfl, h0, h⟩ := trodAll_cons h
  obtain ⟨v1, vs1, d1, ds1, p1, ps1, rfl, rfl, rfl, h1, h⟩ := trodAll_cons h
  obtain ⟨v2, vs2, d2, ds2, p2, ps2, rfl, rfl, rfl, h2, h⟩ := trodAll_cons h
  obtain ⟨rfl, rfl, rfl⟩ := trodAll_nil h
  exact ⟨v0, v1, v2, d0, d1, d2, p0, p1, p2, rfl, rfl, by simp, h0, h1, h2⟩
end
end Go.Proofs.YtmnibmgbicnamaaGreatDoor
