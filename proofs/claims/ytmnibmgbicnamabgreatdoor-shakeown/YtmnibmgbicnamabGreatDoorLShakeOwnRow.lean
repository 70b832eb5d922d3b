/-
  heddlelaw08.ShakeOwn: the row.
-/
import Derived.Test.YtmnibmgbicnamabGreatDoorKg
import Derived.Test.YtmnibmgbicnamabGreatDoorLSOwn
namespace Go.Proofs.YtmnibmgbicnamabGreatDoor
open Go.ChangeShapes Go.WideShapes Go.RowKit

set_option maxRecDepth 100000 in
theorem sown_lifted (os : Os) (started : os.Started) (H : Type) (enc : TypeId × Value → H) :
    ReturnsInHanded {} Tryz.checked os 4 .any (fun w args => (Rows.shakeOwnSpec.pre enc Tryz.prog Tryz.f4 [] false w args ∧ laidMetH Tryz.prog [("math/bits.deBruijn32tab", Rows.laid_math_bits_deBruijn32tab), ("math/bits.deBruijn64tab", Rows.laid_math_bits_deBruijn64tab), ("internal/strconv.uint64pow10", Rows.laid_internal_strconv_uint64pow10), ("errors.errorType", Rows.laid_errors_errorType)] w) ∧ sizedMet enc Tryz.prog Tryz.f4 (OpenSpec.ofChange Rows.shakeOwnSpec) false w args)
      (Rows.shakeOwnSpec.post enc Tryz.prog Tryz.f4 false true false false) := by
  refine returnsInHanded_of_change_and (C := Tryz.checked) (X := fun w _ => laidMetH Tryz.prog [("math/bits.deBruijn32tab", Rows.laid_math_bits_deBruijn32tab), ("math/bits.deBruijn64tab", Rows.laid_math_bits_deBruijn64tab), ("internal/strconv.uint64pow10", Rows.laid_internal_strconv_uint64pow10), ("errors.errorType", Rows.laid_errors_errorType)] w) (fun _ _ _ hh h => h.of_heap hh) Tryz.own started (by kernel_rfl) Tryz.func4
    (ChangeSpec.witness_at (enc := enc) (C := Tryz.checked) (os := os) (X := fun w _ => laidMetH Tryz.prog [("math/bits.deBruijn32tab", Rows.laid_math_bits_deBruijn32tab), ("math/bits.deBruijn64tab", Rows.laid_math_bits_deBruijn64tab), ("internal/strconv.uint64pow10", Rows.laid_internal_strconv_uint64pow10), ("errors.errorType", Rows.laid_errors_errorType)] w) false (withVar (World.holding Tryz.prog os ⟨#[], #[], []⟩)) #[.agg #[.int .i64 0, .int .u64 0, .int .u32 0, .int .u32 0, .string ⟨#[]⟩, .string ⟨#[]⟩, .slice none 0 0], .int .i64 0, .slice none 0 0] 8 rfl (by kernel_rfl) (by kernel_rfl) (by kernel_rfl) (by kernel_rfl) (by kernel_rfl) (withVar_met4 os _)) ?_
  intro W base args ds gs before hval0 hW _ hszA hL _
  have hval : ∀ (j : Nat) t v, Tryz.f4.params[j]? = some t → args[j]? = some v → Value.okWide Tryz.prog W .any base t v := hval0
  have hW' := hW
  obtain ⟨p, q, hA0, hV0, rfl, hfz, hnd⟩ := hW
  have hA : DataW.TrodAll enc Tryz.prog W 0 (fun _ => true) true Tryz.f4.params.toList args.toList ds p := hA0
  have hV : DataW.TrodVars enc Tryz.prog W (fun _ => true) [] gs q := hV0
  rw [Tryz.params4] at hA hval
  obtain ⟨v0, v1, v2, d0, d1, d2, p0, p1, p2, rfl, rfl, rfl, h0, h1, h2⟩ := trodAll_three8 hA
  obtain ⟨rfl, rfl⟩ := trodVars_none hV
  have hsz0 : (∀ k ∈ d0.weights Tryz.prog 49, k ≤ reachBytes) := fun k hk => by
    have h1 : ((DataW.weightsEach Tryz.prog (Tryz.f4.params.toList ++ []) ([d0, d1, d2] ++ [])).all (· ≤ reachBytes)) = true := hszA
    rw [Tryz.params4] at h1
    exact of_decide_eq_true (List.all_eq_true.1 h1 k (by simp [DataW.weightsEach, hk]))
  have hsz2 : (∀ k ∈ d2.weights Tryz.prog 22, k ≤ reachBytes) := fun k hk => by
    have h1 : ((DataW.weightsEach Tryz.prog (Tryz.f4.params.toList ++ []) ([d0, d1, d2] ++ [])).all (· ≤ reachBytes)) = true := hszA
    rw [Tryz.params4] at h1
    exact of_decide_eq_true (List.all_eq_true.1 h1 k (by simp [DataW.weightsEach, hk]))
  have htb : Tb W := tens4 hL
  have hg : Er W := cell_of_laid hL
  obtain ⟨m0, D0, rfl, hm0, hD0, hn0, hst0, hdl0⟩ := shake_of_trod (hval 0 49 v0 rfl rfl) h0 hsz0
  obtain ⟨n1, rfl, _, _⟩ := num_of_trod Tryz.underlying47 (hval 1 47 v1 rfl rfl) h1
  obtain ⟨bs2, hx2, hb2, hr2⟩ := bytes_of_trod (hval 2 22 v2 rfl rfl) h2
  have hl2 := Nat.le_trans hb2 (places_small hsz2)
  have hr2 : ∀ z ∈ bs2, 0 ≤ z ∧ z < 256 := fun z hz => by have := hr2 z hz; omega
  refine (own_any m0 hm0 hn0 hdl0 n1 bs2 hr2 hl2 hD0 hx2 ⟨hg, htb⟩).mono fun ev W' ⟨he, hb⟩ => ?_
  subst he
  have e1 : Rows.shakeOwnSpec.fn H ([d0, d1, d2] ++ []) = { results := [.lit (.bool true)], args := [d0, d1, d2] } := rfl
  refine ⟨_, rfl, _, _, _, [], p0 ++ (p1 ++ p2), [], hW', ?_, ?_, ?_, hb.frame _, fun h => by cases h⟩
  · rw [e1]; exact trodAll_mk1 (shut_bool Tryz.underlying4 true)
  · rw [e1]
    exact trodAll_cons_mk (Below.trod Tryz.laidOut (by kernel_rfl) (of_decide_eq_true (by kernel_rfl)) h0 hb (fun z hz => by simpa using hW'.lt z (by simp [hz]))) (trodAll_cons_mk (Below.trod Tryz.laidOut (by kernel_rfl) (of_decide_eq_true (by kernel_rfl)) h1 hb (fun z hz => by simpa using hW'.lt z (by simp [hz]))) (trodAll_mk1 (Below.trod Tryz.laidOut (by kernel_rfl) (of_decide_eq_true (by kernel_rfl)) h2 hb (fun z hz => by simpa using hW'.lt z (by simp [hz])))))
  · rw [e1]; rfl

theorem sown_holds : Rows.ShakeOwnSaid :=
  OpenClaim.holds_of_wide 4 Tryz.f4 rfl rfl rfl rfl rfl rfl rfl ⟨rfl, rfl, rfl, rfl, rfl⟩ rfl rfl rfl rfl rfl (by kernel_rfl) Tryz.func4 (by kernel_rfl)
    (of_decide_eq_true (by kernel_rfl)) (by unfold Func.isWrapper; rw [if_neg (of_decide_eq_false (by kernel_rfl))]; exact ⟨rfl, rfl⟩)
    (fun os started H enc _ => sown_lifted os started H enc)
end Go.Proofs.YtmnibmgbicnamabGreatDoor
