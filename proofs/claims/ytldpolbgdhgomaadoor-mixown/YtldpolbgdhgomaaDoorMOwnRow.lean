/-
  heddlelaw07.MixOwn: the row, given the program's mix.
-/
import Derived.Test.YtldpolbgdhgomaaDoorMRowBase
import Derived.Test.YtldpolbgdhgomaaDoorM8
import Derived.Deep.DeepHandedRow
namespace Go.Proofs.YtldpolbgdhgomaaDoor
open Go.ChangeShapes Go.WideShapes Go.RowKit

set_option maxRecDepth 100000 in
theorem own_lifted {No : World → Value → Prop} (I : MImpl) (G : MNo No) (os : Os) (started : os.Started) (H : Type) (enc : TypeId × Value → H) :
    ReturnsInHanded {} Tryd.checked os 7 .any (fun w args => (Rows.mixOwnSpec.pre enc Tryd.prog Tryd.f7 [] false w args ∧ laidMetH Tryd.prog [("math/bits.deBruijn32tab", Rows.laid_math_bits_deBruijn32tab), ("math/bits.deBruijn64tab", Rows.laid_math_bits_deBruijn64tab), ("internal/strconv.uint64pow10", Rows.laid_internal_strconv_uint64pow10), ("errors.errorType", Rows.laid_errors_errorType)] w) ∧ sizedMet enc Tryd.prog Tryd.f7 (OpenSpec.ofChange Rows.mixOwnSpec) false w args)
      (Rows.mixOwnSpec.post enc Tryd.prog Tryd.f7 false true false false) := by
  refine returnsInHanded_of_change_and (C := Tryd.checked) (X := fun w _ => laidMetH Tryd.prog [("math/bits.deBruijn32tab", Rows.laid_math_bits_deBruijn32tab), ("math/bits.deBruijn64tab", Rows.laid_math_bits_deBruijn64tab), ("internal/strconv.uint64pow10", Rows.laid_internal_strconv_uint64pow10), ("errors.errorType", Rows.laid_errors_errorType)] w) (fun _ _ _ hh h => h.of_heap hh) Tryd.own started (by kernel_rfl) Tryd.func7
    (ChangeSpec.witness_at (enc := enc) (C := Tryd.checked) (os := os) (X := fun w _ => laidMetH Tryd.prog [("math/bits.deBruijn32tab", Rows.laid_math_bits_deBruijn32tab), ("math/bits.deBruijn64tab", Rows.laid_math_bits_deBruijn64tab), ("internal/strconv.uint64pow10", Rows.laid_internal_strconv_uint64pow10), ("errors.errorType", Rows.laid_errors_errorType)] w) false (withVar (World.holding Tryd.prog os ⟨#[], #[], []⟩)) #[.string ⟨#[]⟩, .int .u32 0] 8 rfl (by kernel_rfl) (by kernel_rfl) (by kernel_rfl) (by kernel_rfl) (by kernel_rfl) (withVar_met4 os _)) ?_
  intro W base args ds gs before hval0 hW _ hszA hL _
  have hval : ∀ (j : Nat) t v, Tryd.f7.params[j]? = some t → args[j]? = some v → Value.okWide Tryd.prog W .any base t v := hval0
  have hW' := hW
  obtain ⟨p, q, hA0, hV0, rfl, hfz, hnd⟩ := hW
  have hA : DataW.TrodAll enc Tryd.prog W 0 (fun _ => true) true Tryd.f7.params.toList args.toList ds p := hA0
  have hV : DataW.TrodVars enc Tryd.prog W (fun _ => true) [] gs q := hV0
  rw [Tryd.params7] at hA hval
  obtain ⟨v0, v1, d0, d1, p0, p1, rfl, rfl, rfl, h0, h1⟩ := trodAll_two hA
  obtain ⟨rfl, rfl⟩ := trodVars_none hV
  have hsz0 : (∀ k ∈ d0.weights Tryd.prog 9, k ≤ reachBytes) := fun k hk => by
    have h1 : ((DataW.weightsEach Tryd.prog (Tryd.f7.params.toList ++ []) ([d0, d1] ++ [])).all (· ≤ reachBytes)) = true := hszA
    rw [Tryd.params7] at h1
    exact of_decide_eq_true (List.all_eq_true.1 h1 k (by simp [DataW.weightsEach, hk]))
  have htb : Tb W := tens4 hL
  have hg : Er W := cell_of_laid hL
  obtain ⟨s0, rfl, hs0⟩ := text_of_trod (hval 0 9 v0 rfl rfl) h0 hsz0
  obtain ⟨n1, rfl, hlo1, hhi1⟩ := num_of_trod Tryd.underlying30 (hval 1 30 v1 rfl rfl) h1
  have e01 : IntKind.u32.min = 0 := by decide
  have e11 : IntKind.u32.max = 4294967295 := by decide
  rw [e01] at hlo1
  rw [e11] at hhi1
  obtain ⟨n1, rfl⟩ : ∃ m : Nat, n1 = (m : Int) := ⟨n1.toNat, by omega⟩
  have hn1 : n1 < 4294967296 := by omega
  refine (own_any I G s0 hs0 n1 hn1 W hg htb).mono fun ev W' ⟨he, hb⟩ => ?_
  subst he
  have e1 : Rows.mixOwnSpec.fn H ([d0, d1] ++ []) = { results := [.lit (.bool true)], args := [d0, d1] } := rfl
  refine ⟨_, rfl, _, _, _, [], p0 ++ p1, [], hW', ?_, ?_, ?_, hb.frame _, fun h => by cases h⟩
  · rw [e1]; exact trodAll_mk1 (shut_bool Tryd.underlying4 true)
  · rw [e1]
    exact trodAll_mk2 (Below.trod Tryd.laidOut (by kernel_rfl) (of_decide_eq_true (by kernel_rfl)) h0 hb (fun z hz => by simpa using hW'.lt z (by simp [hz]))) (Below.trod Tryd.laidOut (by kernel_rfl) (of_decide_eq_true (by kernel_rfl)) h1 hb (fun z hz => by simpa using hW'.lt z (by simp [hz])))
  · rw [e1]; rfl

theorem own_holds {No : World → Value → Prop} (I : MImpl) (G : MNo No) : Rows.MixOwnSaid :=
  OpenClaim.holds_of_wide 7 Tryd.f7 rfl rfl rfl rfl rfl rfl rfl ⟨rfl, rfl, rfl, rfl, rfl⟩ rfl rfl rfl rfl rfl (by kernel_rfl) Tryd.func7 (by kernel_rfl)
    (of_decide_eq_true (by kernel_rfl)) (by unfold Func.isWrapper; rw [if_neg (of_decide_eq_false (by kernel_rfl))]; exact ⟨rfl, rfl⟩)
    (fun os started H enc _ => own_lifted I G os started H enc)
end Go.Proofs.YtldpolbgdhgomaaDoor
