/-
  heddlelaw05.StreamChunks: the row, given the program's stream.
-/
import Derived.Test.YtjkmklbkemoldaaDoorChunks
namespace Go.Proofs.YtjkmklbkemoldaaDoor
open Go.ChangeShapes Go.WideShapes Go.RowKit

section
variable {H : Type} {enc : TypeId × Value → H} {W : World}

set_option maxRecDepth 100000 in
/-- As sl_of_trod, and its numbers are bytes. -/
theorem bytes_of_trod {x : Value} {d : DataW H} {p : List MemPlace} {base : Nat} (hv : Value.okWide Tryd.prog W .any base 29 x) (h : DataW.Trod enc Tryd.prog W 0 (fun _ => true) true 29 x d p) : ∃ bs, Sl W x bs ∧ bs.length ≤ placesOf d ∧ ∀ z ∈ bs, 0 ≤ z ∧ z ≤ 255 := by
  obtain ⟨a0, len0, cap0, rfl⟩ := okWide_slice Tryd.underlying29 hv
  obtain ⟨fuel, hf⟩ := h
  rcases Deep.open_slice1 Tryd.underlying29 Tryd.cellsByte hf with ⟨hx, hd⟩ | ⟨a, len, cap, m, n', V, D, Pl, hx, _, hl, hm, hmm, hd, hc⟩
  · simp [Value.cells] at hx
    obtain ⟨rfl, rfl, rfl⟩ := hx
    exact ⟨[], .inl ⟨rfl, rfl⟩, Nat.zero_le _, fun z hz => by cases hz⟩
  · simp [Value.cells] at hx
    obtain ⟨rfl, rfl, rfl⟩ := hx
    simp only [if_true] at hmm
    subst hmm
    simp only [Prod.mk.injEq] at hd
    obtain ⟨rfl, rfl⟩ := hd
    by_cases h0 : m = 0
    · subst h0
      have : len0 = 0 := by omega
      subst this
      exact ⟨[], .inr (.inl ⟨a, rfl, rfl⟩), Nat.zero_le _, fun z hz => by cases hz⟩
    · obtain ⟨b, off, spot⟩ := a
      have hspot : spot = none := by simpa [Addr.add] using World.cell?_spot (hc 0 (by omega)).1
      subst hspot
      have hz : ∀ i, i < len0 → ∃ z : Int, V i = .int .u8 z ∧ 0 ≤ z ∧ z ≤ 255 := fun i hi => by
        obtain ⟨z, hz, _, hw⟩ := DataW.trod_int Tryd.underlying5 (hc i (by omega)).2
        simp only [List.cons.injEq, and_true] at hz
        have hw : IntKind.u8.min ≤ z ∧ z ≤ IntKind.u8.max := by simpa [Lit.wf] using hw
        have e0 : IntKind.u8.min = 0 := by decide
        have e1 : IntKind.u8.max = 255 := by decide
        rw [e0, e1] at hw
        exact ⟨z, hz, hw⟩
      obtain ⟨z, hz⟩ := Deep.choose_lt hz
      refine ⟨(List.range len0).map z, .inr (.inr ⟨b, off, m, by simp, by simpa using hl, hm, fun j hj => ?_⟩), ?_, fun y hy => ?_⟩
      · have hj : j < len0 := by simpa using hj
        have := (hc j (by omega)).1
        rw [Addr.add_lit] at this
        rw [this, (hz j hj).1]
        simp
      · simp [placesOf]
      · obtain ⟨j, hj, rfl⟩ := List.mem_map.1 hy
        exact (hz j (List.mem_range.1 hj)).2
end

set_option maxRecDepth 100000 in
theorem chunks_lifted {Mem : World → Nat → (Nat → Prop) → St → Prop} (I : Impl Mem) (os : Os) (started : os.Started) (H : Type) (enc : TypeId × Value → H) :
    ReturnsInHanded {} Tryd.checked os 6 .any (fun w args => (Rows.streamChunksSpec.pre enc Tryd.prog Tryd.f6 [] false w args ∧ laidMetH Tryd.prog [("errors.errorType", Rows.laid_errors_errorType)] w) ∧ sizedMet enc Tryd.prog Tryd.f6 (OpenSpec.ofChange Rows.streamChunksSpec) false w args)
      (Rows.streamChunksSpec.post enc Tryd.prog Tryd.f6 false true false false) := by
  refine returnsInHanded_of_change_and (C := Tryd.checked) (X := fun w _ => laidMetH Tryd.prog [("errors.errorType", Rows.laid_errors_errorType)] w) (fun _ _ _ hh h => h.of_heap hh) Tryd.own started (by kernel_rfl) Tryd.func6
    (ChangeSpec.witness_at (enc := enc) (C := Tryd.checked) (os := os) (X := fun w _ => laidMetH Tryd.prog [("errors.errorType", Rows.laid_errors_errorType)] w) false (withVar (World.holding Tryd.prog os ⟨#[], #[], []⟩)) #[.slice none 0 0, .slice none 0 0] 8 rfl (by kernel_rfl) (by kernel_rfl) (by kernel_rfl) (by kernel_rfl) (by kernel_rfl) (withVar_met os _)) ?_
  intro W base args ds gs before hval0 hW _ hsz0 hL _
  have hval : ∀ (j : Nat) t v, Tryd.f6.params[j]? = some t → args[j]? = some v → Value.okWide Tryd.prog W .any base t v := hval0
  have hW' := hW
  obtain ⟨p, q, hA0, hV0, rfl, hfz, hnd⟩ := hW
  have hA : DataW.TrodAll enc Tryd.prog W 0 (fun _ => true) true Tryd.f6.params.toList args.toList ds p := hA0
  have hV : DataW.TrodVars enc Tryd.prog W (fun _ => true) [] gs q := hV0
  rw [Tryd.params6] at hA hval
  obtain ⟨v0, v1, d0, d1, p0, p1, rfl, rfl, rfl, h0, h1⟩ := trodAll_two hA
  obtain ⟨rfl, rfl⟩ := trodVars_none hV
  have hsz : (∀ k ∈ d0.weights Tryd.prog 29, k ≤ reachBytes) := fun k hk => by
    have h1 : ((DataW.weightsEach Tryd.prog (Tryd.f6.params.toList ++ []) ([d0, d1] ++ [])).all (· ≤ reachBytes)) = true := hsz0
    rw [Tryd.params6] at h1
    exact of_decide_eq_true (List.all_eq_true.1 h1 k (by simp [DataW.weightsEach, hk]))
  have hg : Er W := cell_of_laid hL
  obtain ⟨bs, hx, hbs, _⟩ := bytes_of_trod (hval 0 29 v0 rfl rfl) h0
  obtain ⟨ps, hy, _, hps⟩ := bytes_of_trod (hval 1 29 v1 rfl rfl) h1
  refine (chunks_any I v0 v1 bs ps W hg hx hy hps (Nat.le_trans hbs (places_small hsz))).mono fun ev W' ⟨he, hb⟩ => ?_
  subst he
  have e1 : Rows.streamChunksSpec.fn H ([d0, d1] ++ []) = { results := [.lit (.bool true)], args := [d0, d1] } := rfl
  refine ⟨_, rfl, _, _, _, [], p0 ++ p1, [], hW', ?_, ?_, ?_, hb.frame _, fun h => by cases h⟩
  · rw [e1]; exact trodAll_mk1 (shut_bool Tryd.underlying4 true)
  · rw [e1]
    exact trodAll_mk2 (Below.trod Tryd.laidOut (by kernel_rfl) (of_decide_eq_true (by kernel_rfl)) h0 hb (fun z hz => by simpa using hW'.lt z (by simp [hz]))) (Below.trod Tryd.laidOut (by kernel_rfl) (of_decide_eq_true (by kernel_rfl)) h1 hb (fun z hz => by simpa using hW'.lt z (by simp [hz])))
  · rw [e1]; rfl

theorem chunks_holds {Mem : World → Nat → (Nat → Prop) → St → Prop} (I : Impl Mem) : Rows.StreamChunksSaid :=
  OpenClaim.holds_of_wide 6 Tryd.f6 rfl rfl rfl rfl rfl rfl rfl ⟨rfl, rfl, rfl, rfl, rfl⟩ rfl rfl rfl rfl rfl (by kernel_rfl) Tryd.func6 (by kernel_rfl)
    (of_decide_eq_true (by kernel_rfl)) (by unfold Func.isWrapper; rw [if_neg (of_decide_eq_false (by kernel_rfl))]; exact ⟨rfl, rfl⟩)
    (fun os started H enc _ => chunks_lifted I os started H enc)
end Go.Proofs.YtjkmklbkemoldaaDoor
