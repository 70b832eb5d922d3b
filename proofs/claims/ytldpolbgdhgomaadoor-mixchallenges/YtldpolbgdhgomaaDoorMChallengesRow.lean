/-
  heddlelaw07.MixChallenges: the row, given the program's mix.
-/
import Derived.Test.YtldpolbgdhgomaaDoorMRowBase
import Derived.Test.YtldpolbgdhgomaaDoorM7
import Derived.Deep.DeepHandedRow
namespace Go.Proofs.YtldpolbgdhgomaaDoor
open Go.ChangeShapes Go.WideShapes Go.RowKit

set_option maxRecDepth 100000 in
theorem challenges_lifted {Gm : World → Nat → (Nat → Prop) → Int → Int → Prop} (I : MImpl) (G : MGen Gm) (os : Os) (started : os.Started) (H : Type) (enc : TypeId × Value → H) :
    ReturnsInHanded {} Tryd.checked os 6 .any (fun w args => (Rows.mixChallengesSpec.pre enc Tryd.prog Tryd.f6 [] false w args ∧ laidMetH Tryd.prog [("math/bits.deBruijn32tab", Rows.laid_math_bits_deBruijn32tab), ("math/bits.deBruijn64tab", Rows.laid_math_bits_deBruijn64tab), ("internal/strconv.uint64pow10", Rows.laid_internal_strconv_uint64pow10)] w) ∧ sizedMet enc Tryd.prog Tryd.f6 (OpenSpec.ofChange Rows.mixChallengesSpec) false w args)
      (Rows.mixChallengesSpec.post enc Tryd.prog Tryd.f6 false true false false) := by
  refine returnsInHanded_of_change_and (C := Tryd.checked) (X := fun w _ => laidMetH Tryd.prog [("math/bits.deBruijn32tab", Rows.laid_math_bits_deBruijn32tab), ("math/bits.deBruijn64tab", Rows.laid_math_bits_deBruijn64tab), ("internal/strconv.uint64pow10", Rows.laid_internal_strconv_uint64pow10)] w) (fun _ _ _ hh h => h.of_heap hh) Tryd.own started (by kernel_rfl) Tryd.func6
    (ChangeSpec.witness_at (enc := enc) (C := Tryd.checked) (os := os) (X := fun w _ => laidMetH Tryd.prog [("math/bits.deBruijn32tab", Rows.laid_math_bits_deBruijn32tab), ("math/bits.deBruijn64tab", Rows.laid_math_bits_deBruijn64tab), ("internal/strconv.uint64pow10", Rows.laid_internal_strconv_uint64pow10)] w) false (withVar (World.holding Tryd.prog os ⟨#[], #[], []⟩)) #[.int .u64 0, .int .u16 0] 8 rfl (by kernel_rfl) (by kernel_rfl) (by kernel_rfl) (by kernel_rfl) (by kernel_rfl) (withVar_met3 os _)) ?_
  intro W base args ds gs before hval0 hW _ _ hL _
  have hval : ∀ (j : Nat) t v, Tryd.f6.params[j]? = some t → args[j]? = some v → Value.okWide Tryd.prog W .any base t v := hval0
  have hW' := hW
  obtain ⟨p, q, hA0, hV0, rfl, hfz, hnd⟩ := hW
  have hA : DataW.TrodAll enc Tryd.prog W 0 (fun _ => true) true Tryd.f6.params.toList args.toList ds p := hA0
  have hV : DataW.TrodVars enc Tryd.prog W (fun _ => true) [] gs q := hV0
  rw [Tryd.params6] at hA hval
  obtain ⟨v0, v1, d0, d1, p0, p1, rfl, rfl, rfl, h0, h1⟩ := trodAll_two hA
  obtain ⟨rfl, rfl⟩ := trodVars_none hV
  have htb : Tb W := tens3 hL
  obtain ⟨n0, rfl, hlo0, hhi0⟩ := num_of_trod Tryd.underlying40 (hval 0 40 v0 rfl rfl) h0
  have e00 : IntKind.u64.min = 0 := by decide
  have e10 : IntKind.u64.max = 18446744073709551615 := by decide
  rw [e00] at hlo0
  rw [e10] at hhi0
  have hn0 : U64 n0 := ⟨by omega, by omega⟩
  obtain ⟨n1, rfl, hlo1, hhi1⟩ := num_of_trod Tryd.underlying41 (hval 1 41 v1 rfl rfl) h1
  have e01 : IntKind.u16.min = 0 := by decide
  have e11 : IntKind.u16.max = 65535 := by decide
  rw [e01] at hlo1
  rw [e11] at hhi1
  obtain ⟨n1, rfl⟩ : ∃ m : Nat, n1 = (m : Int) := ⟨n1.toNat, by omega⟩
  have hn1 : n1 < 65536 := by omega
  refine (challenges_any I G n0 hn0 n1 hn1 W htb).mono fun ev W' ⟨he, hb⟩ => ?_
  subst he
  have e1 : Rows.mixChallengesSpec.fn H ([d0, d1] ++ []) = { results := [.lit (.bool true)], args := [d0, d1] } := rfl
  refine ⟨_, rfl, _, _, _, [], p0 ++ p1, [], hW', ?_, ?_, ?_, hb.frame _, fun h => by cases h⟩
  · rw [e1]; exact trodAll_mk1 (shut_bool Tryd.underlying4 true)
  · rw [e1]
    exact trodAll_mk2 (Below.trod Tryd.laidOut (by kernel_rfl) (of_decide_eq_true (by kernel_rfl)) h0 hb (fun z hz => by simpa using hW'.lt z (by simp [hz]))) (Below.trod Tryd.laidOut (by kernel_rfl) (of_decide_eq_true (by kernel_rfl)) h1 hb (fun z hz => by simpa using hW'.lt z (by simp [hz])))
  · rw [e1]; rfl

theorem challenges_holds {Gm : World → Nat → (Nat → Prop) → Int → Int → Prop} (I : MImpl) (G : MGen Gm) : Rows.MixChallengesSaid :=
  OpenClaim.holds_of_wide 6 Tryd.f6 rfl rfl rfl rfl rfl rfl rfl ⟨rfl, rfl, rfl, rfl, rfl⟩ rfl rfl rfl rfl rfl (by kernel_rfl) Tryd.func6 (by kernel_rfl)
    (of_decide_eq_true (by kernel_rfl)) (by unfold Func.isWrapper; rw [if_neg (of_decide_eq_false (by kernel_rfl))]; exact ⟨rfl, rfl⟩)
    (fun os started H enc _ => challenges_lifted I G os started H enc)
end Go.Proofs.YtldpolbgdhgomaaDoor
