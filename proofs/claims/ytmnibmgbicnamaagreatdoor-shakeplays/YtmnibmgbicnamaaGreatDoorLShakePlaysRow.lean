/-
  heddlelaw08.ShakePlays: the row.
-/
import Derived.Test.YtmnibmgbicnamaaGreatDoorKg
import Derived.Test.YtmnibmgbicnamaaGreatDoorLSStart
import Derived.Test.YtmnibmgbicnamaaGreatDoorLSPlays
namespace Go.Proofs.YtmnibmgbicnamaaGreatDoor
open Go.ChangeShapes Go.WideShapes Go.RowKit

set_option maxRecDepth 100000 in
theorem splays_lifted (os : Os) (started : os.Started) (H : Type) (enc : TypeId × Value → H) :
    ReturnsInHanded {} Tryz.checked os 6 .any (fun w args => (Rows.shakePlaysSpec.pre enc Tryz.prog Tryz.f6 [] false w args ∧ laidMetH Tryz.prog [("math/bits.deBruijn32tab", Rows.laid_math_bits_deBruijn32tab), ("math/bits.deBruijn64tab", Rows.laid_math_bits_deBruijn64tab), ("internal/strconv.uint64pow10", Rows.laid_internal_strconv_uint64pow10), ("errors.errorType", Rows.laid_errors_errorType)] w) ∧ sizedMet enc Tryz.prog Tryz.f6 (OpenSpec.ofChange Rows.shakePlaysSpec) false w args)
      (Rows.shakePlaysSpec.post enc Tryz.prog Tryz.f6 false true false false) := by
  refine returnsInHanded_of_change_and (C := Tryz.checked) (X := fun w _ => laidMetH Tryz.prog [("math/bits.deBruijn32tab", Rows.laid_math_bits_deBruijn32tab), ("math/bits.deBruijn64tab", Rows.laid_math_bits_deBruijn64tab), ("internal/strconv.uint64pow10", Rows.laid_internal_strconv_uint64pow10), ("errors.errorType", Rows.laid_errors_errorType)] w) (fun _ _ _ hh h => h.of_heap hh) Tryz.own started (by kernel_rfl) Tryz.func6
    (ChangeSpec.witness_at (enc := enc) (C := Tryz.checked) (os := os) (X := fun w _ => laidMetH Tryz.prog [("math/bits.deBruijn32tab", Rows.laid_math_bits_deBruijn32tab), ("math/bits.deBruijn64tab", Rows.laid_math_bits_deBruijn64tab), ("internal/strconv.uint64pow10", Rows.laid_internal_strconv_uint64pow10), ("errors.errorType", Rows.laid_errors_errorType)] w) false (withVar (World.holding Tryz.prog os ⟨#[], #[], []⟩)) #[.agg #[.bool false, .string ⟨#[]⟩, .int .u64 0, .int .u32 0, .string ⟨#[]⟩, .string ⟨#[]⟩, .int .u32 0], .slice none 0 0] 8 rfl (by kernel_rfl) (by kernel_rfl) (by kernel_rfl) (by kernel_rfl) (by kernel_rfl) (withVar_met4 os _)) ?_
  intro W base args ds gs before hval0 hW _ hszA hL _
  have hval : ∀ (j : Nat) t v, Tryz.f6.params[j]? = some t → args[j]? = some v → Value.okWide Tryz.prog W .any base t v := hval0
  have hW' := hW
  obtain ⟨p, q, hA0, hV0, rfl, hfz, hnd⟩ := hW
  have hA : DataW.TrodAll enc Tryz.prog W 0 (fun _ => true) true Tryz.f6.params.toList args.toList ds p := hA0
  have hV : DataW.TrodVars enc Tryz.prog W (fun _ => true) [] gs q := hV0
  rw [Tryz.params6] at hA hval
  obtain ⟨v0, v1, d0, d1, p0, p1, rfl, rfl, rfl, h0, h1⟩ := trodAll_two hA
  obtain ⟨rfl, rfl⟩ := trodVars_none hV
  have hsz0 : (∀ k ∈ d0.weights Tryz.prog 48, k ≤ reachBytes) := fun k hk => by
    have h1 : ((DataW.weightsEach Tryz.prog (Tryz.f6.params.toList ++ []) ([d0, d1] ++ [])).all (· ≤ reachBytes)) = true := hszA
    rw [Tryz.params6] at h1
    exact of_decide_eq_true (List.all_eq_true.1 h1 k (by simp [DataW.weightsEach, hk]))
  have hsz1 : (∀ k ∈ d1.weights Tryz.prog 49, k ≤ reachBytes) := fun k hk => by
    have h1 : ((DataW.weightsEach Tryz.prog (Tryz.f6.params.toList ++ []) ([d0, d1] ++ [])).all (· ≤ reachBytes)) = true := hszA
    rw [Tryz.params6] at h1
    exact of_decide_eq_true (List.all_eq_true.1 h1 k (by simp [DataW.weightsEach, hk]))
  have htb : Tb W := tens4 hL
  have hg : Er W := cell_of_laid hL
  obtain ⟨bg0, me0, peer0, ck0, ch0, rfl, hme0, hch0, hns0, hps0, hcs0⟩ := start_of_trod (hval 0 48 v0 rfl rfl) h0 hsz0
  obtain ⟨l1, hL1⟩ := ops_of_trod (hval 1 49 v1 rfl rfl) h1 hsz1
  refine (plays_any bg0 me0 hme0 peer0 ck0 ch0 hch0 hns0 hps0 hcs0 l1 hL1 ⟨hg, htb⟩).mono fun ev W' ⟨he, hb⟩ => ?_
  subst he
  have e1 : Rows.shakePlaysSpec.fn H ([d0, d1] ++ []) = { results := [.lit (.bool true)], args := [d0, d1] } := rfl
  refine ⟨_, rfl, _, _, _, [], p0 ++ p1, [], hW', ?_, ?_, ?_, hb.frame _, fun h => by cases h⟩
  · rw [e1]; exact trodAll_mk1 (shut_bool Tryz.underlying4 true)
  · rw [e1]
    exact trodAll_cons_mk (Below.trod Tryz.laidOut (by kernel_rfl) (of_decide_eq_true (by kernel_rfl)) h0 hb (fun z hz => by simpa using hW'.lt z (by simp [hz]))) (trodAll_mk1 (Below.trod Tryz.laidOut (by kernel_rfl) (of_decide_eq_true (by kernel_rfl)) h1 hb (fun z hz => by simpa using hW'.lt z (by simp [hz]))))
  · rw [e1]; rfl

theorem splays_holds : Rows.ShakePlaysSaid :=
  OpenClaim.holds_of_wide 6 Tryz.f6 rfl rfl rfl rfl rfl rfl rfl ⟨rfl, rfl, rfl, rfl, rfl⟩ rfl rfl rfl rfl rfl (by kernel_rfl) Tryz.func6 (by kernel_rfl)
    (of_decide_eq_true (by kernel_rfl)) (by unfold Func.isWrapper; rw [if_neg (of_decide_eq_false (by kernel_rfl))]; exact ⟨rfl, rfl⟩)
    (fun os started H enc _ => splays_lifted os started H enc)
end Go.Proofs.YtmnibmgbicnamaaGreatDoor
