/-
  Layer 7 (mix): what every row of the seat needs: the listed variable errors.errorType; texts, numbers and slices of bytes read out of memory.
  Layer 8 (shake): what every row of the seat needs beside MRowBase: a message read out of memory.
  heddlelaw08.ShakeBack: its walk.
-/
import Derived.Test.YtmnibmgbicnamaaGreatDoorRows
import Derived.Test.YtmnibmgbicnamaaGreatDoorK2
import Derived.ProofKit
import Derived.ChangeSame
import Derived.ChangeVars
import Derived.JoinedOf
import Derived.RowKit
import Derived.RowKitTokens
import Derived.LaidLaws
import Derived.LaidHandle
import Derived.LaidSub
import Derived.Lib.LaidTab
import Derived.Stop.Joined
import Derived.Lib.SmallJoins
import Derived.Deep.Slices
import Derived.Test.YtmnibmgbicnamaaGreatDoorKd
import Derived.Deep.DeepHandedRow
namespace Go.Proofs.YtmnibmgbicnamaaGreatDoor
open Go.ChangeShapes Go.WideShapes Go.RowKit

theorem Tryz.cellsByte : Tryz.prog.cellsOf 5 = 1 := by kernel_rfl
theorem Tryz.bytesByte : Tryz.prog.bytesOf 5 = 1 := by kernel_rfl
theorem Tryz.own : ownKnob Tryz.prog.godebug = none := by kernel_rfl
theorem Tryz.laidOut : laidOutB Tryz.prog = true := by kernel_rfl
theorem Tryz.et : Tryz.prog.globalNamed "errors.errorType" = some 0 := by kernel_rfl
theorem Tryz.rt : (Tryz.prog.cutTypes.find? (·.1 == "internal/reflectlite.rtype")).map (·.2) = some 168 := by kernel_rfl
theorem Tryz.oneRow : ((List.range 251).filter fun t => Tryz.prog.rowNamed t [101, 114, 114, 111, 114]) = [29] := by kernel_rfl
theorem Tryz.size : Tryz.prog.types.size = 251 := by kernel_rfl
/-- What the listed variable gives a walk: its one cell. -/
theorem cell_of_laid {W : World} (h : laidMetH Tryz.prog [("math/bits.deBruijn32tab", Rows.laid_math_bits_deBruijn32tab), ("math/bits.deBruijn64tab", Rows.laid_math_bits_deBruijn64tab), ("internal/strconv.uint64pow10", Rows.laid_internal_strconv_uint64pow10), ("errors.errorType", Rows.laid_errors_errorType)] W) : W.cell? ⟨0, 0, none⟩ = some (.iface 168 (.agg #[.pointer (some ⟨5, 29, none⟩)])) := by
  have h' : laidMet Tryz.prog [("math/bits.deBruijn32tab", Rows.laid_math_bits_deBruijn32tab), ("math/bits.deBruijn64tab", Rows.laid_math_bits_deBruijn64tab), ("internal/strconv.uint64pow10", Rows.laid_internal_strconv_uint64pow10)] W ∧ handlesMet Tryz.prog [("errors.errorType", Rows.laid_errors_errorType)] W := h
  obtain ⟨name, u, ty, e1, e2, e3, e4, e5⟩ := h'.2 _ (List.mem_singleton.2 rfl)
  have en : name = [101, 114, 114, 111, 114] := (Option.some.inj e1).symm
  subst en
  obtain rfl := Option.some.inj (Tryz.rt.symm.trans e2)
  have hm : ty ∈ (List.range 251).filter fun t => Tryz.prog.rowNamed t [101, 114, 114, 111, 114] := List.mem_filter.2 ⟨List.mem_range.2 (by rw [← Tryz.size]; exact e3), e4⟩
  rw [Tryz.oneRow] at hm
  obtain rfl := List.mem_singleton.1 hm
  have hh : typeHandle Tryz.prog 29 = .pointer (some ⟨5, 29, none⟩) := by kernel_rfl
  rw [hh] at e5
  simpa using World.var?_cell Tryz.et e5 0
/-- .. and of the powers of ten. -/
def keepsTens (x : String × DataW Unit) : Bool := match x.2 with
  | .agg (.lit (.int .u64 _) :: _) => true
  | _ => false
theorem tens_of {l : List (String × DataW Unit)} {W : World} (h : laidMet Tryz.prog l W) (hl : l.filter keepsTens = [("internal/strconv.uint64pow10", Lib.tabData .u64 Lib.pow10Tab)]) : Tb W := by
  have h' := h.filter keepsTens
  rw [hl] at h'
  exact Lib.tabIs_of_head Tryz.pow10 (show (Tryz.prog.globals[2]?).map (·.type) = some 216 by kernel_rfl) Tryz.underlying216 Tryz.underlying23 (by kernel_rfl) (by kernel_rfl) h'
theorem tens3 {W : World} (h : laidMetH Tryz.prog [("math/bits.deBruijn32tab", Rows.laid_math_bits_deBruijn32tab), ("math/bits.deBruijn64tab", Rows.laid_math_bits_deBruijn64tab), ("internal/strconv.uint64pow10", Rows.laid_internal_strconv_uint64pow10)] W) : Tb W := tens_of (laidMetH_iff.1 h).1 (by kernel_rfl)
theorem tens4 {W : World} (h : laidMetH Tryz.prog [("math/bits.deBruijn32tab", Rows.laid_math_bits_deBruijn32tab), ("math/bits.deBruijn64tab", Rows.laid_math_bits_deBruijn64tab), ("internal/strconv.uint64pow10", Rows.laid_internal_strconv_uint64pow10), ("errors.errorType", Rows.laid_errors_errorType)] W) : Tb W := tens_of (laidMetH_iff.1 h).1 (by kernel_rfl)
/-- A variable's cells laid. -/
def layAt (w : World) (g : Nat) (cs : Array Value) : World := { w with heap := w.heap.modify g fun
      | .cells _ t frozen => .cells cs t frozen
      | o => o }
/-- A world with the listed variables' cells laid in it. -/
def withVar (w : World) : World := layAt (layAt (layAt (layAt w 0 #[.iface 168 (.agg #[.pointer (some ⟨5, 29, none⟩)])]) 2 #[.int .u64 1, .int .u64 10, .int .u64 100, .int .u64 1000, .int .u64 10000, .int .u64 100000, .int .u64 1000000, .int .u64 10000000, .int .u64 100000000, .int .u64 1000000000, .int .u64 10000000000, .int .u64 100000000000, .int .u64 1000000000000, .int .u64 10000000000000, .int .u64 100000000000000, .int .u64 1000000000000000, .int .u64 10000000000000000, .int .u64 100000000000000000, .int .u64 1000000000000000000, .int .u64 10000000000000000000]) 3 #[.int .u8 0, .int .u8 1, .int .u8 28, .int .u8 2, .int .u8 29, .int .u8 14, .int .u8 24, .int .u8 3, .int .u8 30, .int .u8 22, .int .u8 20, .int .u8 15, .int .u8 25, .int .u8 17, .int .u8 4, .int .u8 8, .int .u8 31, .int .u8 27, .int .u8 13, .int .u8 23, .int .u8 21, .int .u8 19, .int .u8 16, .int .u8 7, .int .u8 26, .int .u8 12, .int .u8 18, .int .u8 6, .int .u8 11, .int .u8 5, .int .u8 10, .int .u8 9]) 4 #[.int .u8 0, .int .u8 1, .int .u8 56, .int .u8 2, .int .u8 57, .int .u8 49, .int .u8 28, .int .u8 3, .int .u8 61, .int .u8 58, .int .u8 42, .int .u8 50, .int .u8 38, .int .u8 29, .int .u8 17, .int .u8 4, .int .u8 62, .int .u8 47, .int .u8 59, .int .u8 36, .int .u8 45, .int .u8 43, .int .u8 51, .int .u8 22, .int .u8 53, .int .u8 39, .int .u8 33, .int .u8 30, .int .u8 24, .int .u8 18, .int .u8 12, .int .u8 5, .int .u8 63, .int .u8 55, .int .u8 48, .int .u8 27, .int .u8 60, .int .u8 41, .int .u8 37, .int .u8 16, .int .u8 46, .int .u8 35, .int .u8 44, .int .u8 21, .int .u8 52, .int .u8 32, .int .u8 23, .int .u8 11, .int .u8 54, .int .u8 26, .int .u8 40, .int .u8 15, .int .u8 34, .int .u8 20, .int .u8 31, .int .u8 10, .int .u8 25, .int .u8 14, .int .u8 19, .int .u8 9, .int .u8 13, .int .u8 8, .int .u8 7, .int .u8 6]
set_option maxRecDepth 100000 in
theorem withVar_met3 (os : Os) (args : Array Value) : laidMetH Tryz.prog [("math/bits.deBruijn32tab", Rows.laid_math_bits_deBruijn32tab), ("math/bits.deBruijn64tab", Rows.laid_math_bits_deBruijn64tab), ("internal/strconv.uint64pow10", Rows.laid_internal_strconv_uint64pow10)] ((withVar (World.holding Tryz.prog os ⟨#[], #[], []⟩)).forCall (fun _ _ => 0) ⟨#[], args, []⟩).memory :=
  laidMetH_of_parts (laidMet_of_run' 8 (by kernel_rfl) (by kernel_rfl)) (by kernel_rfl)
set_option maxRecDepth 100000 in
theorem withVar_met4 (os : Os) (args : Array Value) : laidMetH Tryz.prog [("math/bits.deBruijn32tab", Rows.laid_math_bits_deBruijn32tab), ("math/bits.deBruijn64tab", Rows.laid_math_bits_deBruijn64tab), ("internal/strconv.uint64pow10", Rows.laid_internal_strconv_uint64pow10), ("errors.errorType", Rows.laid_errors_errorType)] ((withVar (World.holding Tryz.prog os ⟨#[], #[], []⟩)).forCall (fun _ _ => 0) ⟨#[], args, []⟩).memory :=
  laidMetH_of_parts (laidMet_of_run' 8 (by kernel_rfl) (by kernel_rfl)) (by kernel_rfl)

section
variable {H : Type} {enc : TypeId × Value → H} {W : World}
/-- How many places a slice's datum has. -/
def placesOf : DataW H → Nat
  | .slice elems spare => elems.length + spare.length
  | _ => 0
theorem places_small {d : DataW H} (h : ∀ k ∈ d.weights Tryz.prog 25, k ≤ reachBytes) : placesOf d ≤ 140737488355328 := by
  cases d with
  | slice e sp =>
    have := h ((e.length + sp.length) * Tryz.prog.bytesOf 5) (by simp [DataW.weights, Tryz.underlying25])
    rw [Tryz.bytesByte] at this
    simp only [reachBytes] at this
    simp only [placesOf]
    omega
  | _ => simp [placesOf]
theorem mem_weightsAll {P : Program} {e : TypeId} {d : DataW H} {l : List (DataW H)} (hd : d ∈ l) {k : Nat} (hk : k ∈ d.weights P e) : k ∈ DataW.weightsAll P e l := by
  induction l with
  | nil => cases hd
  | cons x r ih =>
    simp only [DataW.weightsAll, List.mem_append]
    rcases List.mem_cons.1 hd with rfl | hd
    · exact .inl hk
    · exact .inr (ih hd)
theorem bulk_pos (d : DataW H) : 1 ≤ Rows.uptoBulk d := by
  cases d with
  | lit l => cases l <;> simp [Rows.uptoBulk]
  | nil => simp [Rows.uptoBulk]
  | ptr d => simp [Rows.uptoBulk]
  | slice elems spare => simp [Rows.uptoBulk]
  | agg parts => simp [Rows.uptoBulk]
  | iface t d => simp [Rows.uptoBulk]
  | map entries => simp [Rows.uptoBulk]
  | held h => simp [Rows.uptoBulk]
theorem bulk_mem {d : DataW H} : ∀ {l : List (DataW H)}, d ∈ l → Rows.uptoBulk d ≤ Rows.uptoBulkAll l
  | x :: r, h => by
    simp only [Rows.uptoBulkAll]
    rcases List.mem_cons.1 h with rfl | h
    · omega
    · have := bulk_mem h; omega
theorem bulk_len : ∀ l : List (DataW H), l.length ≤ Rows.uptoBulkAll l
  | [] => Nat.zero_le _
  | x :: r => by
    have := bulk_pos x
    have := bulk_len r
    simp only [Rows.uptoBulkAll, List.length_cons]
    omega
theorem bulk_places (d : DataW H) : placesOf d ≤ Rows.uptoBulk d := by
  cases d with
  | slice e sp =>
    have := bulk_len e
    have := bulk_len sp
    simp only [placesOf, Rows.uptoBulk]
    omega
  | _ => simp [placesOf]
set_option maxRecDepth 100000 in
/-- As sl_of_trod, and its numbers are bytes. -/
theorem bytes_of_trod {x : Value} {d : DataW H} {p : List MemPlace} {base : Nat} (hv : Value.okWide Tryz.prog W .any base 25 x) (h : DataW.Trod enc Tryz.prog W 0 (fun _ => true) true 25 x d p) : ∃ bs, Sl W x bs ∧ bs.length ≤ placesOf d ∧ ∀ z ∈ bs, 0 ≤ z ∧ z ≤ 255 := by
  obtain ⟨a0, len0, cap0, rfl⟩ := okWide_slice Tryz.underlying25 hv
  obtain ⟨fuel, hf⟩ := h
  rcases Deep.open_slice1 Tryz.underlying25 Tryz.cellsByte hf with ⟨hx, hd⟩ | ⟨a, len, cap, m, n', V, D, Pl, hx, _, hl, hm, hmm, hd, hc⟩
  · simp [Value.cells] at hx
    obtain ⟨rfl, rfl, rfl⟩ := hx
    exact ⟨[], .inl ⟨rfl, rfl⟩, Nat.zero_le _, fun z hz => by cases hz⟩
  · simp [Value.cells] at hx
    obtain ⟨rfl, rfl, rfl⟩ := hx
    simp only [if_true] at hmm
    subst hmm
    simp only [Prod.mk.injEq] at hd
    obtain ⟨rfl, rfl⟩ := hd
    by_cases h0 : m = 0
    · subst h0
      have : len0 = 0 := by omega
      subst this
      exact ⟨[], .inr (.inl ⟨a, rfl, rfl⟩), Nat.zero_le _, fun z hz => by cases hz⟩
    · obtain ⟨b, off, spot⟩ := a
      have hspot : spot = none := by simpa [Addr.add] using World.cell?_spot (hc 0 (by omega)).1
      subst hspot
      have hz : ∀ i, i < len0 → ∃ z : Int, V i = .int .u8 z ∧ 0 ≤ z ∧ z ≤ 255 := fun i hi => by
        obtain ⟨z, hz, _, hw⟩ := DataW.trod_int Tryz.underlying5 (hc i (by omega)).2
        simp only [List.cons.injEq, and_true] at hz
        have hw : IntKind.u8.min ≤ z ∧ z ≤ IntKind.u8.max := by simpa [Lit.wf] using hw
        have e0 : IntKind.u8.min = 0 := by decide
        have e1 : IntKind.u8.max = 255 := by decide
        rw [e0, e1] at hw
        exact ⟨z, hz, hw⟩
      obtain ⟨z, hz⟩ := Deep.choose_lt hz
      refine ⟨(List.range len0).map z, .inr (.inr ⟨b, off, m, by simp, by simpa using hl, hm, fun j hj => ?_⟩), ?_, fun y hy => ?_⟩
      · have hj : j < len0 := by simpa using hj
        have := (hc j (by omega)).1
        rw [Addr.add_lit] at this
        rw [this, (hz j hj).1]
        simp
      · simp [placesOf]
      · obtain ⟨j, hj, rfl⟩ := List.mem_map.1 hy
        exact (hz j (List.mem_range.1 hj)).2
set_option maxRecDepth 100000 in
/-- A text, and its length. -/
theorem text_of_trod {x : Value} {d : DataW H} {p : List MemPlace} {base : Nat} (hv : Value.okWide Tryz.prog W .any base 9 x) (h : DataW.Trod enc Tryz.prog W 0 (fun _ => true) true 9 x d p) (hsz : ∀ k ∈ d.weights Tryz.prog 9, k ≤ reachBytes) : ∃ s : ByteArray, x = .string s ∧ s.size ≤ 4611686018427387904 := by
  obtain ⟨t, rfl⟩ := okWide_string Tryz.underlying9 hv
  obtain ⟨fuel, hf⟩ := h
  obtain ⟨s, hs, hd, _⟩ := DataW.trod_string Tryz.underlying9 hf
  simp only [Prod.mk.injEq] at hd
  obtain ⟨rfl, _⟩ := hd
  have h1 := hsz s.data.toList.length (by simp [DataW.weights])
  have h2 : s.data.toList.length = s.size := rfl
  rw [h2] at h1
  simp only [reachBytes] at h1
  have h3 : t = s := by simpa [Value.cells] using hs
  subst h3
  exact ⟨t, rfl, by omega⟩
set_option maxRecDepth 100000 in
/-- A number, and its bounds. -/
theorem num_of_trod {t : TypeId} {k : IntKind} {x : Value} {d : DataW H} {p : List MemPlace} {base : Nat} (ht : Tryz.prog.underlying t = some (.int k)) (hv : Value.okWide Tryz.prog W .any base t x) (h : DataW.Trod enc Tryz.prog W 0 (fun _ => true) true t x d p) : ∃ n : Int, x = .int k n ∧ k.min ≤ n ∧ n ≤ k.max := by
  obtain ⟨m, rfl⟩ := okWide_int ht hv
  obtain ⟨fuel, hf⟩ := h
  obtain ⟨n, hn, _, hw⟩ := DataW.trod_int ht hf
  have h3 : m = n := by simpa [Value.cells] using hn
  subst h3
  have hw : k.min ≤ m ∧ m ≤ k.max := by simpa [Lit.wf] using hw
  exact ⟨m, rfl, hw.1, hw.2⟩
end
/-- Five arguments. -/
theorem trodAll_five {H : Type} {enc : TypeId × Value → H} {P : Program} {w : World} {base : Nat} {spare : Nat → Bool} {held : Bool} {t0 t1 t2 t3 t4 : TypeId} {args : Array Value} {ds : List (DataW H)} {ps : List MemPlace} (h : DataW.TrodAll enc P w base spare held [t0, t1, t2, t3, t4] args.toList ds ps) :
    ∃ v0 v1 v2 v3 v4 d0 d1 d2 d3 d4 p0 p1 p2 p3 p4, args = #[v0, v1, v2, v3, v4] ∧ ds = [d0, d1, d2, d3, d4] ∧ ps = p0 ++ (p1 ++ (p2 ++ (p3 ++ p4))) ∧ DataW.Trod enc P w base spare held t0 v0 d0 p0 ∧ DataW.Trod enc P w base spare held t1 v1 d1 p1 ∧ DataW.Trod enc P w base spare held t2 v2 d2 p2 ∧ DataW.Trod enc P w base spare held t3 v3 d3 p3 ∧ DataW.Trod enc P w base spare held t4 v4 d4 p4 := by
  obtain ⟨l⟩ := args
  obtain ⟨v0, vs0, d0, ds0, p0, ps0, rfl, rfl, rfl, h0, h⟩ := trodAll_cons h
  obtain ⟨v1, vs1, d1, ds1, p1, ps1, rfl, rfl, rfl, h1, h⟩ := trodAll_cons h
  obtain ⟨v2, vs2, d2, ds2, p2, ps2, rfl, rfl, rfl, h2, h⟩ := trodAll_cons h
  obtain ⟨v3, vs3, d3, ds3, p3, ps3, rfl, rfl, rfl, h3, h⟩ := trodAll_cons h
  obtain ⟨v4, vs4, d4, ds4, p4, ps4, rfl, rfl, rfl, h4, h⟩ := trodAll_cons h
  obtain ⟨rfl, rfl, rfl⟩ := trodAll_nil h
  exact ⟨v0, v1, v2, v3, v4, d0, d1, d2, d3, d4, p0, p1, p2, p3, p4, rfl, rfl, by simp, h0, h1, h2, h3, h4⟩
theorem noneLaid (w : World) : laidMetH Tryz.prog [] w := by
  refine laidMetH_of_parts (laidMet_nil _ _) ?_
  rfl
end Go.Proofs.YtmnibmgbicnamaaGreatDoor
namespace Go.Proofs.YtmnibmgbicnamaaGreatDoor
open Go.ChangeShapes Go.WideShapes Go.RowKit

section
variable {H : Type} {enc : TypeId × Value → H} {W : World}
set_option maxRecDepth 100000 in
/-- As bytes_of_trod, of a field. -/
theorem field_of_trod {n : Nat} {x : Value} {y : DataW H × List MemPlace} (h : DataW.trod enc Tryz.prog W 0 (fun _ => true) true n 25 [x] = some y) : ∃ bs, Sl W x bs ∧ bs.length ≤ placesOf y.1 ∧ (∀ z ∈ bs, 0 ≤ z ∧ z < 256) := by
  rcases Deep.open_slice1 Tryz.underlying25 Tryz.cellsByte h with ⟨hx, rfl⟩ | ⟨a, len, cap, m, n', V, D, Pl, hx, _, hl, hm, hmm, rfl, hc⟩
  · simp only [List.cons.injEq, and_true] at hx
    subst hx
    exact ⟨[], .inl ⟨rfl, rfl⟩, Nat.zero_le _, fun z hz => by cases hz⟩
  · simp only [List.cons.injEq, and_true] at hx
    subst hx
    simp only [if_true] at hmm
    subst hmm
    by_cases h0 : m = 0
    · subst h0
      have : len = 0 := by omega
      subst this
      exact ⟨[], .inr (.inl ⟨a, rfl, rfl⟩), Nat.zero_le _, fun z hz => by cases hz⟩
    · obtain ⟨b, off, spot⟩ := a
      have hspot : spot = none := by simpa [Addr.add] using World.cell?_spot (hc 0 (by omega)).1
      subst hspot
      have hz : ∀ i, i < len → ∃ z : Int, V i = .int .u8 z ∧ 0 ≤ z ∧ z < 256 := fun i hi => by
        obtain ⟨z, hz, _, hw⟩ := DataW.trod_int Tryz.underlying5 (hc i (by omega)).2
        simp only [List.cons.injEq, and_true] at hz
        have hw : IntKind.u8.min ≤ z ∧ z ≤ IntKind.u8.max := by simpa [Lit.wf] using hw
        have e0 : IntKind.u8.min = 0 := by decide
        have e1 : IntKind.u8.max = 255 := by decide
        rw [e0, e1] at hw
        exact ⟨z, hz, hw.1, by omega⟩
      obtain ⟨z, hz⟩ := Deep.choose_lt hz
      refine ⟨(List.range len).map z, .inr (.inr ⟨b, off, m, by simp, by simpa using hl, hm, fun j hj => ?_⟩), ?_, fun y hy => ?_⟩
      · have hj : j < len := by simpa using hj
        have := (hc j (by omega)).1
        rw [Addr.add_lit] at this
        rw [this, (hz j hj).1]
        simp
      · simp [placesOf]
      · obtain ⟨j, hj, rfl⟩ := List.mem_map.1 hy
        exact (hz j (List.mem_range.1 hj)).2

theorem array7 {α : Type} {cs : Array α} (h : cs.size = 7) : ∃ c0 c1 c2 c3 c4 c5 c6, cs = #[c0, c1, c2, c3, c4, c5, c6] := by
  obtain ⟨l⟩ := cs
  match l, h with
  | [c0, c1, c2, c3, c4, c5, c6], _ => exact ⟨c0, c1, c2, c3, c4, c5, c6, rfl⟩
/-- A struct of seven fields of one cell each. -/
theorem open_agg7 {P : Program} {base : Nat} {spare : Nat → Bool} {held : Bool} {r : Reach} {b0 : Nat} {t : TypeId} {f0 f1 f2 f3 f4 f5 f6 : Field} {v : Value} {d : DataW H} {p : List MemPlace} (hs : P.underlying t = some (.struct #[f0, f1, f2, f3, f4, f5, f6])) (hone : Deep.oneCellFields P #[f0, f1, f2, f3, f4, f5, f6] = true) (hC : P.cellsOf t = 7)
    (hv : Value.okWide P W r b0 t v) (h : DataW.Trod enc P W base spare held t v d p) :
    ∃ (v0 v1 v2 v3 v4 v5 v6 : Value) (y0 y1 y2 y3 y4 y5 y6 : DataW H × List MemPlace) (n : Nat), v = .agg #[v0, v1, v2, v3, v4, v5, v6] ∧ d = .agg [y0.1, y1.1, y2.1, y3.1, y4.1, y5.1, y6.1] ∧
      DataW.trod enc P W base spare held n f0.type [v0] = some y0 ∧ DataW.trod enc P W base spare held n f1.type [v1] = some y1 ∧ DataW.trod enc P W base spare held n f2.type [v2] = some y2 ∧ DataW.trod enc P W base spare held n f3.type [v3] = some y3 ∧ DataW.trod enc P W base spare held n f4.type [v4] = some y4 ∧ DataW.trod enc P W base spare held n f5.type [v5] = some y5 ∧ DataW.trod enc P W base spare held n f6.type [v6] = some y6 := by
  obtain ⟨cs, rfl, hsz⟩ := okWide_struct hs hv
  obtain ⟨c0, c1, c2, c3, c4, c5, c6, rfl⟩ := array7 (hsz.trans hC)
  obtain ⟨fuel, hf⟩ := h
  obtain ⟨xs, n, _, hx, hl, hlen, hf⟩ := DataW.trod_struct hs hf
  match xs, hlen with
  | [y0, y1, y2, y3, y4, y5, y6], _ =>
    have g0 := hf 0 f0 rfl
    obtain ⟨o0, k0⟩ := Deep.hone_of hone 0 f0 rfl
    have g1 := hf 1 f1 rfl
    obtain ⟨o1, k1⟩ := Deep.hone_of hone 1 f1 rfl
    have g2 := hf 2 f2 rfl
    obtain ⟨o2, k2⟩ := Deep.hone_of hone 2 f2 rfl
    have g3 := hf 3 f3 rfl
    obtain ⟨o3, k3⟩ := Deep.hone_of hone 3 f3 rfl
    have g4 := hf 4 f4 rfl
    obtain ⟨o4, k4⟩ := Deep.hone_of hone 4 f4 rfl
    have g5 := hf 5 f5 rfl
    obtain ⟨o5, k5⟩ := Deep.hone_of hone 5 f5 rfl
    have g6 := hf 6 f6 rfl
    obtain ⟨o6, k6⟩ := Deep.hone_of hone 6 f6 rfl
    simp only [Prod.mk.injEq] at hx
    exact ⟨c0, c1, c2, c3, c4, c5, c6, y0, y1, y2, y3, y4, y5, y6, n, rfl, by simpa using hx.1, by simpa [Value.cells, o0, k0] using g0, by simpa [Value.cells, o1, k1] using g1, by simpa [Value.cells, o2, k2] using g2, by simpa [Value.cells, o3, k3] using g3, by simpa [Value.cells, o4, k4] using g4, by simpa [Value.cells, o5, k5] using g5, by simpa [Value.cells, o6, k6] using g6⟩
theorem trod_num {n : Nat} {t : TypeId} {k : IntKind} {x : Value} {y : DataW H × List MemPlace} (ht : Tryz.prog.underlying t = some (.int k)) (h : DataW.trod enc Tryz.prog W 0 (fun _ => true) true n t [x] = some y) : ∃ z : Int, x = .int k z ∧ k.min ≤ z ∧ z ≤ k.max := by
  obtain ⟨z, hz, _, hw⟩ := DataW.trod_int ht h
  have h3 : x = .int k z := by simpa using hz
  have hw : k.min ≤ z ∧ z ≤ k.max := by simpa [Lit.wf] using hw
  exact ⟨z, h3, hw.1, hw.2⟩
theorem trod_text {n : Nat} {t : TypeId} {x : Value} {y : DataW H × List MemPlace} (ht : Tryz.prog.underlying t = some .string) (h : DataW.trod enc Tryz.prog W 0 (fun _ => true) true n t [x] = some y) (hsz : ∀ k ∈ y.1.weights Tryz.prog t, k ≤ reachBytes) : ∃ s : ByteArray, x = .string s ∧ s.size ≤ 4611686018427387904 := by
  obtain ⟨s, hs, hd, _⟩ := DataW.trod_string ht h
  have h3 : x = .string s := by simpa using hs
  subst hd
  have h1 := hsz s.data.toList.length (by simp [DataW.weights])
  have h2 : s.data.toList.length = s.size := rfl
  rw [h2] at h1
  simp only [reachBytes] at h1
  exact ⟨s, h3, by omega⟩
set_option maxRecDepth 100000 in
/-- A message. -/
theorem shake_of_trod {v : Value} {d : DataW H} {p : List MemPlace} {base : Nat} (hv : Value.okWide Tryz.prog W .any base 27 v) (h : DataW.Trod enc Tryz.prog W 0 (fun _ => true) true 27 v d p) (hsz : ∀ k ∈ d.weights Tryz.prog 27, k ≤ reachBytes) :
    ∃ m D, v = msgV' m D ∧ m.Ok ∧ Sl W D m.digest ∧ m.name.size ≤ 4611686018427387904 ∧ m.status.size ≤ 4611686018427387904 ∧ m.digest.length ≤ 140737488355328 := by
  obtain ⟨v0, v1, v2, v3, v4, v5, v6, y0, y1, y2, y3, y4, y5, y6, n, rfl, rfl, t0, t1, t2, t3, t4, t5, t6⟩ := open_agg7 Tryz.underlying27 (by kernel_rfl) (by kernel_rfl) hv h
  have hw : ∀ (t : TypeId) (y : DataW H), (t, y) ∈ [(9, y4.1), (9, y5.1), (25, y6.1)] → ∀ z ∈ y.weights Tryz.prog t, z ≤ reachBytes := by
    intro t y hy z hz
    refine hsz z ?_
    simp only [DataW.weights, Tryz.underlying27]
    simp only [List.mem_cons, Prod.mk.injEq, List.not_mem_nil, or_false] at hy
    rcases hy with ⟨rfl, rfl⟩ | ⟨rfl, rfl⟩ | ⟨rfl, rfl⟩ <;> simp [DataW.weightsEach, hz]
  obtain ⟨k, rfl, _, _⟩ := trod_num Tryz.underlying22 t0
  obtain ⟨fl, rfl, f1, f2⟩ := trod_num Tryz.underlying23 t1
  obtain ⟨cr, rfl, c1, c2⟩ := trod_num Tryz.underlying24 t2
  obtain ⟨ch, rfl, g1, g2⟩ := trod_num Tryz.underlying24 t3
  obtain ⟨nm, rfl, hnm⟩ := trod_text Tryz.underlying9 t4 (hw _ _ (by simp))
  obtain ⟨st, rfl, hst⟩ := trod_text Tryz.underlying9 t5 (hw _ _ (by simp))
  obtain ⟨bs, hbs, hpl, hrg⟩ := field_of_trod t6
  have e0 : IntKind.u64.min = 0 := by decide
  have e1 : IntKind.u64.max = 18446744073709551615 := by decide
  have e2 : IntKind.u32.min = 0 := by decide
  have e3 : IntKind.u32.max = 4294967295 := by decide
  rw [e0] at f1
  rw [e1] at f2
  rw [e2] at c1 g1
  rw [e3] at c2 g2
  exact ⟨⟨k, fl, cr, ch, nm, st, bs⟩, v6, rfl, ⟨⟨f1, Int.lt_of_le_of_lt f2 (by decide)⟩, ⟨c1, Int.lt_of_le_of_lt c2 (by decide)⟩, ⟨g1, Int.lt_of_le_of_lt g2 (by decide)⟩, hrg⟩, hbs, hnm, hst, Nat.le_trans hpl (places_small (hw _ _ (by simp)))⟩
/-- Three arguments. -/
theorem trodAll_three8 {P : Program} {w : World} {base : Nat} {spare : Nat → Bool} {held : Bool} {t0 t1 t2 : TypeId} {args : Array Value} {ds : List (DataW H)} {ps : List MemPlace} (h : DataW.TrodAll enc P w base spare held [t0, t1, t2] args.toList ds ps) :
    ∃ v0 v1 v2 d0 d1 d2 p0 p1 p2, args = #[v0, v1, v2] ∧ ds = [d0, d1, d2] ∧ ps = p0 ++ (p1 ++ p2) ∧ DataW.Trod enc P w base spare held t0 v0 d0 p0 ∧ DataW.Trod enc P w base spare held t1 v1 d1 p1 ∧ DataW.Trod enc P w base spare held t2 v2 d2 p2 := by
  obtain ⟨l⟩ := args
  obtain ⟨v0, vs0, d0, ds0, p0, ps0, rfl, rfl, rfl, h0, h⟩ := trodAll_cons h
  obtain ⟨v1, vs1, d1, ds1, p1, ps1, rfl, rfl, rfl, h1, h⟩ := trodAll_cons h
  obtain ⟨v2, vs2, d2, ds2, p2, ps2, rfl, rfl, rfl, h2, h⟩ := trodAll_cons h
  obtain ⟨rfl, rfl, rfl⟩ := trodAll_nil h
  exact ⟨v0, v1, v2, d0, d1, d2, p0, p1, p2, rfl, rfl, by simp, h0, h1, h2⟩
end
end Go.Proofs.YtmnibmgbicnamaaGreatDoor
namespace Go.Proofs.YtmnibmgbicnamaaGreatDoor
open Go.RowKit

set_option maxRecDepth 100000 in
set_option maxHeartbeats 6400000 in
theorem back_any (m : Msg) (hm : m.Ok) (hns : m.name.size ≤ 4611686018427387904) (k : Int) (c : List Int) (hrc : ∀ z ∈ c, 0 ≤ z ∧ z < 256) (hlc : c.length ≤ 140737488355328) {w : World} {D C : Value} (hD : Sl w D m.digest) (hC : Sl w C c) (hG : Gd w) :
    Calls Tryz.prog 5 #[msgV' m D, .int .i64 k, C] w fun e w' => e = .returned (.bool true) ∧ Below w.heap.size w w' := by
  obtain ⟨aC, cC, rfl, _, _⟩ := hC.form
  obtain ⟨aD, cD, rfl, _, _⟩ := hD.form
  have HC := Hid.mk7 hC
  have HD := Hid.mk7 hD
  have HG := Hid.mk7 hG
  have HRC := Hid.mk7 hrc
  have HLC := Hid.mk7 hlc
  have HRO := Hid.mk7 (read_ok k c hrc)
  have HWR : Hid ((readOf k c).1 = [] → writeOf (readOf k c).2 = c ∧ writeErr (readOf k c).2 = []) := fun h => by
    obtain ⟨h1, h2, h3, h4⟩ := write_read k c hrc h
    refine ⟨(writeOf_ok h1 h2).trans h3, ?_⟩
    unfold writeErr
    rw [if_neg (by simpa using h1), if_neg (fun h => by rw [h2 h.1] at h; exact absurd h.2 (by decide))]
  have HNS : Hid ((readOf k c).1 = [] → (readOf k c).2.name.size ≤ 4611686018427387904) := fun h => by
    obtain ⟨h1, h2, _⟩ := write_read k c hrc h
    have := (fits_small h1 h2).1
    omega
  have HMK : Hid (writeErr m = [] → readOf m.kind (writeOf m) = ([], m)) := fun h => by
    have hf : fits m := Classical.byContradiction fun hf => by
      unfold writeErr at h
      rw [if_pos hf] at h
      cases h
    have hn : (m.kind = 1 ∨ m.kind = 3) → nodeOk m.name = true := fun hk => by
      cases hx : nodeOk m.name with
      | true => rfl
      | false =>
        unfold writeErr at h
        rw [if_neg (by simpa using hf), if_pos ⟨hk, hx⟩] at h
        cases h
    rw [writeOf_ok hf hn]
    exact read_write m hm hf hn
  have HBW : Hid (Byts (writeOf m)) := Byts.write m hm.digest
  obtain ⟨wa, hwa⟩ : ∃ wa, wa = w.alloc (.cells #[.int .i64 m.kind, .int .u64 m.flags, .int .u32 m.creation, .int .u32 m.challenge, .string m.name, .string m.status, .slice aD m.digest.length cD] 27) := ⟨_, rfl⟩
  have ba : Below w.heap.size w wa := by rw [hwa]; exact (Below.refl _ _).alloc (Nat.le_refl _) _
  have hma : MsgAt wa w.heap.size m (.slice aD m.digest.length cD) := by rw [hwa]; exact ⟨by simp, by simp, by simp, by simp, by simp, by simp, by simp⟩
  have haw := law_awake (hG.below ba)
  have H0 : Hid (Below w.heap.size w wa ∧ MsgAt wa w.heap.size m (.slice aD m.digest.length cD)) := ⟨ba, hma⟩
  have HM : Hid (m.Ok ∧ m.name.size ≤ 4611686018427387904) := ⟨hm, hns⟩
  have HMV : Hid (msgV' m (.slice aD m.digest.length cD) = .agg #[.int .i64 m.kind, .int .u64 m.flags, .int .u32 m.creation, .int .u32 m.challenge, .string m.name, .string m.status, .slice aD m.digest.length cD]) := rfl
  have HWA := Hid.mk7 hwa
  rw [HMV.out]
  clear hD hC hG hrc hlc ba hma hm hns hwa
  go_enter Tryz.func5, Tryz.ntmps5
  go_wp2_with fail
  rw [← HWA.out]
  refine haw.mono ?_
  rintro e w1 ⟨rfl, hb1⟩
  have H1 : Hid (Below w.heap.size w w1 ∧ MsgAt w1 w.heap.size m (.slice aD m.digest.length cD)) := ⟨H0.out.1.trans (hb1.mono H0.out.1.size), H0.out.2.below hb1⟩
  obtain ⟨m0, m1, m2, m3, m4, m5, m6⟩ := H1.out.2
  have hw1 := sh_Write m HM.out.1 HM.out.2 (HD.out.turned (Turned.ofBelow (S := fun _ => False) H1.out.1) (fun _ _ h => h)) (HG.out.below H1.out.1).er
  rw [HMV.out] at hw1
  clear hb1 haw H0 HWA
  go_wp2_with fail
  refine hw1.mono ?_
  rintro e w2 ⟨V2, v2, rfl, ho2, hf2, hb2, hk2⟩
  have H2 : Hid (Below w.heap.size w w2 ∧ MsgAt w2 w.heap.size m (.slice aD m.digest.length cD) ∧ Own w2 V2 (writeOf m)) := ⟨H1.out.1.trans (hb2.mono H1.out.1.size), H1.out.2.below hb2, ho2⟩
  obtain ⟨a2, c2, h2f, _, _⟩ := ho2.sl.form
  clear ho2 hb2 hk2 hw1 m0 m1 m2 m3 m4 m5 m6 H1
  have HB2 : Hid (Below w.heap.size w w2) := H2.out.1
  generalize (writeOf m).length = L2 at h2f
  subst h2f
  rcases fault_cases hf2 with ⟨hls2, rfl⟩ | ⟨hls2, pb2, rfl⟩
  · have hrm := sh_read m.kind H2.out.2.2.sl HBW.out.1 (by have := HBW.out.2; omega) (HG.out.below H2.out.1).er
    unfold ReadTold at hrm
    rw [HMK.out hls2] at hrm
    obtain ⟨m0, m1, m2, m3, m4, m5, m6⟩ := H2.out.2.1
    have hzm := H2.out.2.1.lt
    clear hf2 hls2
    go_wp2_with fail
    refine hrm.mono ?_
    rintro e w3 ⟨D3, v3, rfl, hf3, hD3, hk3, hb3⟩
    have hf3 : v3 = .nilIface := hf3
    subst hf3
    obtain ⟨a3, c3, h3f, _, _⟩ := hD3.form
    subst h3f
    have H3 : Hid (Below w.heap.size w w3 ∧ MsgAt w3 w.heap.size m (.slice aD m.digest.length cD) ∧ Sl w3 (.slice a3 m.digest.length c3) m.digest) := ⟨H2.out.1.trans (hb3.mono H2.out.1.size), H2.out.2.1.below hb3, hD3⟩
    have hz3 := H3.out.2.1.lt
    clear hb3 hD3 hk3 hrm m0 m1 m2 m3 m4 m5 m6 HB2 hzm
    obtain ⟨m0, m1, m2, m3, m4, m5, m6⟩ := H3.out.2.1
    have bq := (Below.refl w3.heap.size w3).alloc (Nat.le_refl _) (.cells #[.int .i64 m.kind, .int .u64 m.flags, .int .u32 m.creation, .int .u32 m.challenge, .string m.name, .string m.status, .slice a3 m.digest.length c3] 27)
    have bwq := H3.out.1.trans (bq.mono H3.out.1.size)
    have hsm := ref_same_eq m (HD.out.turned (Turned.ofBelow (S := fun _ => False) bwq) (fun _ _ h => h)) (H3.out.2.2.turned (Turned.ofBelow (S := fun _ => False) bq) (fun _ _ h => h))
    have HQ := Hid.mk7 bwq
    unfold msgV' at hsm
    unfold msgV'
    clear bq bwq
    go_wp2_with fail
    refine hsm.mono ?_
    rintro e w4 ⟨rfl, hb4⟩
    have HB4 : Hid (Below w.heap.size w w4) := HQ.out.trans (hb4.mono HQ.out.size)
    clear hb4 hsm m0 m1 m2 m3 m4 m5 m6 H3 hz3 H2 HQ
    have hCw4 : Sl w4 (.slice aC c.length cC) c := HC.out.turned (Turned.ofBelow (S := fun _ => False) HB4.out) (fun _ _ h => h)
    have hrd2 := sh_read k hCw4 HRC.out HLC.out (HG.out.below HB4.out).er
    clear hCw4
    go_wp2_with fail
    refine hrd2.mono ?_
    rintro e x1 ⟨D5, v5, rfl, hf5, hD5, _, hb5⟩
    have HX1 : Hid (Below w.heap.size w x1 ∧ Sl x1 D5 (readOf k c).2.digest) := ⟨HB4.out.trans (hb5.mono HB4.out.size), hD5⟩
    obtain ⟨a5, c5, h5f, _, _⟩ := hD5.form
    subst h5f
    clear hb5 hrd2 hD5
    rcases fault_cases hf5 with ⟨hls, rfl⟩ | ⟨hls, pb5, rfl⟩
    · have hok := HRO.out
      have hwr0 := HWR.out hls
      have hns2 : (readOf k c).2.name.size ≤ 4611686018427387904 := HNS.out hls
      clear hf5
      generalize (readOf k c).2 = n at hok hwr0 hns2 HX1
      obtain ⟨nk, nfl, ncr, nch, nnm, nst, ndg⟩ := n
      unfold msgV'
      simp only at hns2 HX1 ⊢
      have hwt2 := fun W2 (hb : Below x1.heap.size x1 W2) => sh_Write ⟨nk, nfl, ncr, nch, nnm, nst, ndg⟩ hok hns2 (w := W2) (D := .slice a5 ndg.length c5) (HX1.out.2.turned (Turned.ofBelow (S := fun _ => False) hb) (fun _ _ h => h)) (HG.out.below (HX1.out.1.trans (hb.mono HX1.out.1.size))).er
      have hwt3 := hwt2 _ ((Below.refl _ _).alloc (Nat.le_refl _) (.cells #[.int .i64 nk, .int .u64 nfl, .int .u32 ncr, .int .u32 nch, .string nnm, .string nst, .slice a5 ndg.length c5] 27))
      unfold msgV' WriteTold at hwt3
      rw [hwr0.1, hwr0.2] at hwt3
      simp only at hwt3
      have HB3 : Hid (Below w.heap.size w (x1.alloc (.cells #[.int .i64 nk, .int .u64 nfl, .int .u32 ncr, .int .u32 nch, .string nnm, .string nst, .slice a5 ndg.length c5] 27))) := HX1.out.1.alloc HX1.out.1.size _
      clear hwt2 hwr0 hok hns2 hls
      go_wp2_with fail
      refine hwt3.mono ?_
      rintro e x2 ⟨V6, v6, rfl, ho6, hf6, hb6, _⟩
      have hf6 : v6 = .nilIface := hf6
      subst hf6
      have B6 : Below w.heap.size w x2 := HB3.out.trans (hb6.mono HB3.out.size)
      obtain ⟨a6, c6, h6f, _, _⟩ := ho6.sl.form
      subst h6f
      have cv6 := ho6.sl.str
      have cvc := (HC.out.turned (Turned.ofBelow (S := fun _ => False) B6) (fun _ _ h => h)).str
      have HB6 := Hid.mk7 B6
      clear ho6 hb6 hwt3 B6
      go_wp2
      go_ret
      exact ⟨rfl, HB6.out⟩
    · have hzz := (read_zero k c).resolve_left hls
      rw [hzz]
      unfold msgV'
      simp only [Msg.zero]
      have HB4 := Hid.mk7 HX1.out.1
      clear hf5 hls HX1 hzz
      go_wp2
      go_ret
      exact ⟨rfl, HB4.out.alloc HB4.out.size _⟩
  · clear hf2 hls2
    clear H2
    have hCw2 : Sl w2 (.slice aC c.length cC) c := HC.out.turned (Turned.ofBelow (S := fun _ => False) HB2.out) (fun _ _ h => h)
    have hrd2 := sh_read k hCw2 HRC.out HLC.out (HG.out.below HB2.out).er
    clear hCw2
    go_wp2_with fail
    refine hrd2.mono ?_
    rintro e x1 ⟨D5, v5, rfl, hf5, hD5, _, hb5⟩
    have HX1 : Hid (Below w.heap.size w x1 ∧ Sl x1 D5 (readOf k c).2.digest) := ⟨HB2.out.trans (hb5.mono HB2.out.size), hD5⟩
    obtain ⟨a5, c5, h5f, _, _⟩ := hD5.form
    subst h5f
    clear hb5 hrd2 hD5
    rcases fault_cases hf5 with ⟨hls, rfl⟩ | ⟨hls, pb5, rfl⟩
    · have hok := HRO.out
      have hwr0 := HWR.out hls
      have hns2 : (readOf k c).2.name.size ≤ 4611686018427387904 := HNS.out hls
      clear hf5
      generalize (readOf k c).2 = n at hok hwr0 hns2 HX1
      obtain ⟨nk, nfl, ncr, nch, nnm, nst, ndg⟩ := n
      unfold msgV'
      simp only at hns2 HX1 ⊢
      have hwt2 := fun W2 (hb : Below x1.heap.size x1 W2) => sh_Write ⟨nk, nfl, ncr, nch, nnm, nst, ndg⟩ hok hns2 (w := W2) (D := .slice a5 ndg.length c5) (HX1.out.2.turned (Turned.ofBelow (S := fun _ => False) hb) (fun _ _ h => h)) (HG.out.below (HX1.out.1.trans (hb.mono HX1.out.1.size))).er
      have hwt3 := hwt2 _ ((Below.refl _ _).alloc (Nat.le_refl _) (.cells #[.int .i64 nk, .int .u64 nfl, .int .u32 ncr, .int .u32 nch, .string nnm, .string nst, .slice a5 ndg.length c5] 27))
      unfold msgV' WriteTold at hwt3
      rw [hwr0.1, hwr0.2] at hwt3
      simp only at hwt3
      have HB3 : Hid (Below w.heap.size w (x1.alloc (.cells #[.int .i64 nk, .int .u64 nfl, .int .u32 ncr, .int .u32 nch, .string nnm, .string nst, .slice a5 ndg.length c5] 27))) := HX1.out.1.alloc HX1.out.1.size _
      clear hwt2 hwr0 hok hns2 hls
      go_wp2_with fail
      refine hwt3.mono ?_
      rintro e x2 ⟨V6, v6, rfl, ho6, hf6, hb6, _⟩
      have hf6 : v6 = .nilIface := hf6
      subst hf6
      have B6 : Below w.heap.size w x2 := HB3.out.trans (hb6.mono HB3.out.size)
      obtain ⟨a6, c6, h6f, _, _⟩ := ho6.sl.form
      subst h6f
      have cv6 := ho6.sl.str
      have cvc := (HC.out.turned (Turned.ofBelow (S := fun _ => False) B6) (fun _ _ h => h)).str
      have HB6 := Hid.mk7 B6
      clear ho6 hb6 hwt3 B6
      go_wp2
      go_ret
      exact ⟨rfl, HB6.out⟩
    · have hzz := (read_zero k c).resolve_left hls
      rw [hzz]
      unfold msgV'
      simp only [Msg.zero]
      have HB4 := Hid.mk7 HX1.out.1
      clear hf5 hls HX1 hzz
      go_wp2
      go_ret
      exact ⟨rfl, HB4.out.alloc HB4.out.size _⟩
end Go.Proofs.YtmnibmgbicnamaaGreatDoor
