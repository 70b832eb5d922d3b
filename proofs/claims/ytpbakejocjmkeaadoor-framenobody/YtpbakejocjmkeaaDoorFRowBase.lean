/-
  What every row of the seat needs: the listed variable errors.errorType; a slice of bytes read out of memory.
-/
import Derived.Test.YtpbakejocjmkeaaDoorRows
import Derived.Test.YtpbakejocjmkeaaDoorF7
import Derived.ProofKit
import Derived.ChangeSame
import Derived.ChangeVars
import Derived.JoinedOf
import Derived.RowKit
import Derived.RowKitTokens
import Derived.LaidLaws
import Derived.LaidHandle
import Derived.Stop.Joined
import Derived.Lib.SmallJoins
import Derived.Deep.Slices
namespace Go.Proofs.YtpbakejocjmkeaaDoor
open Go.ChangeShapes Go.WideShapes Go.RowKit

theorem Tryd.cellsByte : Tryd.prog.cellsOf 5 = 1 := by kernel_rfl
theorem Tryd.bytesByte : Tryd.prog.bytesOf 5 = 1 := by kernel_rfl
theorem Tryd.own : ownKnob Tryd.prog.godebug = none := by kernel_rfl
theorem Tryd.laidOut : laidOutB Tryd.prog = true := by kernel_rfl
theorem Tryd.et : Tryd.prog.globalNamed "errors.errorType" = some 0 := by kernel_rfl
theorem Tryd.rt : (Tryd.prog.cutTypes.find? (·.1 == "internal/reflectlite.rtype")).map (·.2) = some 105 := by kernel_rfl
theorem Tryd.oneRow : ((List.range 148).filter fun t => Tryd.prog.rowNamed t [101, 114, 114, 111, 114]) = [24] := by kernel_rfl
theorem Tryd.size : Tryd.prog.types.size = 148 := by kernel_rfl
/-- What the listed variable gives a walk: its one cell. -/
theorem cell_of_laid {W : World} (h : laidMetH Tryd.prog [("errors.errorType", Rows.laid_errors_errorType)] W) : W.cell? ⟨0, 0, none⟩ = some (.iface 105 (.agg #[.pointer (some ⟨1, 24, none⟩)])) := by
  have h' : laidMet Tryd.prog [] W ∧ handlesMet Tryd.prog [("errors.errorType", Rows.laid_errors_errorType)] W := h
  obtain ⟨name, u, ty, e1, e2, e3, e4, e5⟩ := h'.2 _ (List.mem_singleton.2 rfl)
  have en : name = [101, 114, 114, 111, 114] := (Option.some.inj e1).symm
  subst en
  obtain rfl := Option.some.inj (Tryd.rt.symm.trans e2)
  have hm : ty ∈ (List.range 148).filter fun t => Tryd.prog.rowNamed t [101, 114, 114, 111, 114] := List.mem_filter.2 ⟨List.mem_range.2 (by rw [← Tryd.size]; exact e3), e4⟩
  rw [Tryd.oneRow] at hm
  obtain rfl := List.mem_singleton.1 hm
  have hh : typeHandle Tryd.prog 24 = .pointer (some ⟨1, 24, none⟩) := by kernel_rfl
  rw [hh] at e5
  simpa using World.var?_cell Tryd.et e5 0
/-- A world with the listed variable's cell laid in it. -/
def withVar (w : World) : World := { w with heap := w.heap.modify 0 fun
      | .cells _ t frozen => .cells #[.iface 105 (.agg #[.pointer (some ⟨1, 24, none⟩)])] t frozen
      | o => o }
theorem withVar_met (os : Os) (args : Array Value) : laidMetH Tryd.prog [("errors.errorType", Rows.laid_errors_errorType)] ((withVar (World.holding Tryd.prog os ⟨#[], #[], []⟩)).forCall (fun _ _ => 0) ⟨#[], args, []⟩).memory :=
  laidMetH_of_parts (laidMet_nil _ _) (by kernel_rfl)

section
variable {H : Type} {enc : TypeId × Value → H} {W : World}
/-- How many places a slice's datum has. -/
def placesOf : DataW H → Nat
  | .slice elems spare => elems.length + spare.length
  | _ => 0
theorem places_small {d : DataW H} (h : ∀ k ∈ d.weights Tryd.prog 22, k ≤ reachBytes) : placesOf d ≤ 140737488355328 := by
  cases d with
  | slice e sp =>
    have := h ((e.length + sp.length) * Tryd.prog.bytesOf 5) (by simp [DataW.weights, Tryd.underlying22])
    rw [Tryd.bytesByte] at this
    simp only [reachBytes] at this
    simp only [placesOf]
    omega
  | _ => simp [placesOf]
theorem mem_weightsAll {P : Program} {e : TypeId} {d : DataW H} {l : List (DataW H)} (hd : d ∈ l) {k : Nat} (hk : k ∈ d.weights P e) : k ∈ DataW.weightsAll P e l := by
  induction l with
  | nil => cases hd
  | cons x r ih =>
    simp only [DataW.weightsAll, List.mem_append]
    rcases List.mem_cons.1 hd with rfl | hd
    · exact .inl hk
    · exact .inr (ih hd)
theorem bulk_pos (d : DataW H) : 1 ≤ Rows.uptoBulk d := by
  cases d with
  | lit l => cases l <;> simp [Rows.uptoBulk]
  | nil => simp [Rows.uptoBulk]
  | ptr d => simp [Rows.uptoBulk]
  | slice elems spare => simp [Rows.uptoBulk]
  | agg parts => simp [Rows.uptoBulk]
  | iface t d => simp [Rows.uptoBulk]
  | map entries => simp [Rows.uptoBulk]
  | held h => simp [Rows.uptoBulk]
theorem bulk_mem {d : DataW H} : ∀ {l : List (DataW H)}, d ∈ l → Rows.uptoBulk d ≤ Rows.uptoBulkAll l
  | x :: r, h => by
    simp only [Rows.uptoBulkAll]
    rcases List.mem_cons.1 h with rfl | h
    · omega
    · have := bulk_mem h; omega
theorem bulk_len : ∀ l : List (DataW H), l.length ≤ Rows.uptoBulkAll l
  | [] => Nat.zero_le _
  | x :: r => by
    have := bulk_pos x
    have := bulk_len r
    simp only [Rows.uptoBulkAll, List.length_cons]
    omega
theorem bulk_places (d : DataW H) : placesOf d ≤ Rows.uptoBulk d := by
  cases d with
  | slice e sp =>
    have := bulk_len e
    have := bulk_len sp
    simp only [placesOf, Rows.uptoBulk]
    omega
  | _ => simp [placesOf]
set_option maxRecDepth 100000 in
/-- As sl_of_trod, and its numbers are bytes. -/
theorem bytes_of_trod {x : Value} {d : DataW H} {p : List MemPlace} {base : Nat} (hv : Value.okWide Tryd.prog W .any base 22 x) (h : DataW.Trod enc Tryd.prog W 0 (fun _ => true) true 22 x d p) : ∃ bs, Sl W x bs ∧ bs.length ≤ placesOf d ∧ ∀ z ∈ bs, 0 ≤ z ∧ z ≤ 255 := by
  obtain ⟨a0, len0, cap0, rfl⟩ := okWide_slice Tryd.underlying22 hv
  obtain ⟨fuel, hf⟩ := h
  rcases Deep.open_slice1 Tryd.underlying22 Tryd.cellsByte hf with ⟨hx, hd⟩ | ⟨a, len, cap, m, n', V, D, Pl, hx, _, hl, hm, hmm, hd, hc⟩
  · simp [Value.cells] at hx
    obtain ⟨rfl, rfl, rfl⟩ := hx
    exact ⟨[], .inl ⟨rfl, rfl⟩, Nat.zero_le _, fun z hz => by cases hz⟩
  · simp [Value.cells] at hx
    obtain ⟨rfl, rfl, rfl⟩ := hx
    simp only [if_true] at hmm
    subst hmm
    simp only [Prod.mk.injEq] at hd
    obtain ⟨rfl, rfl⟩ := hd
    by_cases h0 : m = 0
    · subst h0
      have : len0 = 0 := by omega
      subst this
      exact ⟨[], .inr (.inl ⟨a, rfl, rfl⟩), Nat.zero_le _, fun z hz => by cases hz⟩
    · obtain ⟨b, off, spot⟩ := a
      have hspot : spot = none := by simpa [Addr.add] using World.cell?_spot (hc 0 (by omega)).1
      subst hspot
      have hz : ∀ i, i < len0 → ∃ z : Int, V i = .int .u8 z ∧ 0 ≤ z ∧ z ≤ 255 := fun i hi => by
        obtain ⟨z, hz, _, hw⟩ := DataW.trod_int Tryd.underlying5 (hc i (by omega)).2
        simp only [List.cons.injEq, and_true] at hz
        have hw : IntKind.u8.min ≤ z ∧ z ≤ IntKind.u8.max := by simpa [Lit.wf] using hw
        have e0 : IntKind.u8.min = 0 := by decide
        have e1 : IntKind.u8.max = 255 := by decide
        rw [e0, e1] at hw
        exact ⟨z, hz, hw⟩
      obtain ⟨z, hz⟩ := Deep.choose_lt hz
      refine ⟨(List.range len0).map z, .inr (.inr ⟨b, off, m, by simp, by simpa using hl, hm, fun j hj => ?_⟩), ?_, fun y hy => ?_⟩
      · have hj : j < len0 := by simpa using hj
        have := (hc j (by omega)).1
        rw [Addr.add_lit] at this
        rw [this, (hz j hj).1]
        simp
      · simp [placesOf]
      · obtain ⟨j, hj, rfl⟩ := List.mem_map.1 hy
        exact (hz j (List.mem_range.1 hj)).2
set_option maxRecDepth 100000 in
/-- As bytes_of_trod, of a field. -/
theorem field_of_trod {n : Nat} {x : Value} {y : DataW H × List MemPlace} (h : DataW.trod enc Tryd.prog W 0 (fun _ => true) true n 22 [x] = some y) : ∃ bs, Sl W x bs ∧ bs.length ≤ placesOf y.1 ∧ Rng bs := by
  rcases Deep.open_slice1 Tryd.underlying22 Tryd.cellsByte h with ⟨hx, rfl⟩ | ⟨a, len, cap, m, n', V, D, Pl, hx, _, hl, hm, hmm, rfl, hc⟩
  · simp only [List.cons.injEq, and_true] at hx
    subst hx
    exact ⟨[], .inl ⟨rfl, rfl⟩, Nat.zero_le _, fun z hz => by cases hz⟩
  · simp only [List.cons.injEq, and_true] at hx
    subst hx
    simp only [if_true] at hmm
    subst hmm
    by_cases h0 : m = 0
    · subst h0
      have : len = 0 := by omega
      subst this
      exact ⟨[], .inr (.inl ⟨a, rfl, rfl⟩), Nat.zero_le _, fun z hz => by cases hz⟩
    · obtain ⟨b, off, spot⟩ := a
      have hspot : spot = none := by simpa [Addr.add] using World.cell?_spot (hc 0 (by omega)).1
      subst hspot
      have hz : ∀ i, i < len → ∃ z : Int, V i = .int .u8 z ∧ 0 ≤ z ∧ z < 256 := fun i hi => by
        obtain ⟨z, hz, _, hw⟩ := DataW.trod_int Tryd.underlying5 (hc i (by omega)).2
        simp only [List.cons.injEq, and_true] at hz
        have hw : IntKind.u8.min ≤ z ∧ z ≤ IntKind.u8.max := by simpa [Lit.wf] using hw
        have e0 : IntKind.u8.min = 0 := by decide
        have e1 : IntKind.u8.max = 255 := by decide
        rw [e0, e1] at hw
        exact ⟨z, hz, hw.1, by omega⟩
      obtain ⟨z, hz⟩ := Deep.choose_lt hz
      refine ⟨(List.range len).map z, .inr (.inr ⟨b, off, m, by simp, by simpa using hl, hm, fun j hj => ?_⟩), ?_, fun y hy => ?_⟩
      · have hj : j < len := by simpa using hj
        have := (hc j (by omega)).1
        rw [Addr.add_lit] at this
        rw [this, (hz j hj).1]
        simp
      · simp [placesOf]
      · obtain ⟨j, hj, rfl⟩ := List.mem_map.1 hy
        exact (hz j (List.mem_range.1 hj)).2

end
theorem rng_of {bs : List Int} (h : ∀ z ∈ bs, 0 ≤ z ∧ z ≤ 255) : Rng bs := fun z hz => by have := h z hz; omega
end Go.Proofs.YtpbakejocjmkeaaDoor
