/-
  heddlelaw07.MixKnows: the row, given the program's mix.
-/
import Derived.Test.YtldpolbgdhgomaaDoorMRowBase
import Derived.Test.YtldpolbgdhgomaaDoorM6
import Derived.Deep.DeepHandedRow
namespace Go.Proofs.YtldpolbgdhgomaaDoor
open Go.ChangeShapes Go.WideShapes Go.RowKit

set_option maxRecDepth 100000 in
theorem knows_lifted (I : MImpl) (os : Os) (started : os.Started) (H : Type) (enc : TypeId × Value → H) :
    ReturnsInHanded {} Tryd.checked os 5 .any (fun w args => (Rows.mixKnowsSpec.pre enc Tryd.prog Tryd.f5 [] false w args ∧ laidMetH Tryd.prog [("math/bits.deBruijn32tab", Rows.laid_math_bits_deBruijn32tab), ("math/bits.deBruijn64tab", Rows.laid_math_bits_deBruijn64tab), ("internal/strconv.uint64pow10", Rows.laid_internal_strconv_uint64pow10)] w) ∧ sizedMet enc Tryd.prog Tryd.f5 (OpenSpec.ofChange Rows.mixKnowsSpec) false w args)
      (Rows.mixKnowsSpec.post enc Tryd.prog Tryd.f5 false true false false) := by
  refine returnsInHanded_of_change_and (C := Tryd.checked) (X := fun w _ => laidMetH Tryd.prog [("math/bits.deBruijn32tab", Rows.laid_math_bits_deBruijn32tab), ("math/bits.deBruijn64tab", Rows.laid_math_bits_deBruijn64tab), ("internal/strconv.uint64pow10", Rows.laid_internal_strconv_uint64pow10)] w) (fun _ _ _ hh h => h.of_heap hh) Tryd.own started (by kernel_rfl) Tryd.func5
    (ChangeSpec.witness_at (enc := enc) (C := Tryd.checked) (os := os) (X := fun w _ => laidMetH Tryd.prog [("math/bits.deBruijn32tab", Rows.laid_math_bits_deBruijn32tab), ("math/bits.deBruijn64tab", Rows.laid_math_bits_deBruijn64tab), ("internal/strconv.uint64pow10", Rows.laid_internal_strconv_uint64pow10)] w) false (withVar (World.holding Tryd.prog os ⟨#[], #[], []⟩)) #[.string ⟨#[]⟩, .int .u32 0, .slice none 0 0, .int .i64 0, .int .u8 0] 8 rfl (by kernel_rfl) (by kernel_rfl) (by kernel_rfl) (by kernel_rfl) (by kernel_rfl) (withVar_met3 os _)) ?_
  intro W base args ds gs before hval0 hW _ hszA hL _
  have hval : ∀ (j : Nat) t v, Tryd.f5.params[j]? = some t → args[j]? = some v → Value.okWide Tryd.prog W .any base t v := hval0
  have hW' := hW
  obtain ⟨p, q, hA0, hV0, rfl, hfz, hnd⟩ := hW
  have hA : DataW.TrodAll enc Tryd.prog W 0 (fun _ => true) true Tryd.f5.params.toList args.toList ds p := hA0
  have hV : DataW.TrodVars enc Tryd.prog W (fun _ => true) [] gs q := hV0
  rw [Tryd.params5] at hA hval
  obtain ⟨v0, v1, v2, v3, v4, d0, d1, d2, d3, d4, p0, p1, p2, p3, p4, rfl, rfl, rfl, h0, h1, h2, h3, h4⟩ := trodAll_five hA
  obtain ⟨rfl, rfl⟩ := trodVars_none hV
  have hsz0 : (∀ k ∈ d0.weights Tryd.prog 9, k ≤ reachBytes) := fun k hk => by
    have h1 : ((DataW.weightsEach Tryd.prog (Tryd.f5.params.toList ++ []) ([d0, d1, d2, d3, d4] ++ [])).all (· ≤ reachBytes)) = true := hszA
    rw [Tryd.params5] at h1
    exact of_decide_eq_true (List.all_eq_true.1 h1 k (by simp [DataW.weightsEach, hk]))
  have hsz2 : (∀ k ∈ d2.weights Tryd.prog 31, k ≤ reachBytes) := fun k hk => by
    have h1 : ((DataW.weightsEach Tryd.prog (Tryd.f5.params.toList ++ []) ([d0, d1, d2, d3, d4] ++ [])).all (· ≤ reachBytes)) = true := hszA
    rw [Tryd.params5] at h1
    exact of_decide_eq_true (List.all_eq_true.1 h1 k (by simp [DataW.weightsEach, hk]))
  have htb : Tb W := tens3 hL
  obtain ⟨s0, rfl, hs0⟩ := text_of_trod (hval 0 9 v0 rfl rfl) h0 hsz0
  obtain ⟨n1, rfl, hlo1, hhi1⟩ := num_of_trod Tryd.underlying30 (hval 1 30 v1 rfl rfl) h1
  have e01 : IntKind.u32.min = 0 := by decide
  have e11 : IntKind.u32.max = 4294967295 := by decide
  rw [e01] at hlo1
  rw [e11] at hhi1
  obtain ⟨n1, rfl⟩ : ∃ m : Nat, n1 = (m : Int) := ⟨n1.toNat, by omega⟩
  have hn1 : n1 < 4294967296 := by omega
  obtain ⟨bs2, hx2, hb2, hr2⟩ := bytes_of_trod (hval 2 31 v2 rfl rfl) h2
  have hl2 := Nat.le_trans hb2 (places_small hsz2)
  have hr2 : ∀ z ∈ bs2, 0 ≤ z ∧ z < 256 := fun z hz => by have := hr2 z hz; omega
  obtain ⟨n3, rfl, _, _⟩ := num_of_trod Tryd.underlying3 (hval 3 3 v3 rfl rfl) h3
  obtain ⟨n4, rfl, hlo4, hhi4⟩ := num_of_trod Tryd.underlying5 (hval 4 5 v4 rfl rfl) h4
  have e04 : IntKind.u8.min = 0 := by decide
  have e14 : IntKind.u8.max = 255 := by decide
  rw [e04] at hlo4
  rw [e14] at hhi4
  have hn4 : 0 ≤ n4 ∧ n4 < 256 := ⟨by omega, by omega⟩
  refine (knows_any I s0 hs0 n1 hn1 v2 bs2 n3 n4 hn4 W htb hx2 hr2 hl2).mono fun ev W' ⟨he, hb⟩ => ?_
  subst he
  have e1 : Rows.mixKnowsSpec.fn H ([d0, d1, d2, d3, d4] ++ []) = { results := [.lit (.bool true)], args := [d0, d1, d2, d3, d4] } := rfl
  refine ⟨_, rfl, _, _, _, [], p0 ++ (p1 ++ (p2 ++ (p3 ++ p4))), [], hW', ?_, ?_, ?_, hb.frame _, fun h => by cases h⟩
  · rw [e1]; exact trodAll_mk1 (shut_bool Tryd.underlying4 true)
  · rw [e1]
    exact trodAll_cons_mk (Below.trod Tryd.laidOut (by kernel_rfl) (of_decide_eq_true (by kernel_rfl)) h0 hb (fun z hz => by simpa using hW'.lt z (by simp [hz]))) (trodAll_cons_mk (Below.trod Tryd.laidOut (by kernel_rfl) (of_decide_eq_true (by kernel_rfl)) h1 hb (fun z hz => by simpa using hW'.lt z (by simp [hz]))) (trodAll_cons_mk (Below.trod Tryd.laidOut (by kernel_rfl) (of_decide_eq_true (by kernel_rfl)) h2 hb (fun z hz => by simpa using hW'.lt z (by simp [hz]))) (trodAll_cons_mk (Below.trod Tryd.laidOut (by kernel_rfl) (of_decide_eq_true (by kernel_rfl)) h3 hb (fun z hz => by simpa using hW'.lt z (by simp [hz]))) (trodAll_mk1 (Below.trod Tryd.laidOut (by kernel_rfl) (of_decide_eq_true (by kernel_rfl)) h4 hb (fun z hz => by simpa using hW'.lt z (by simp [hz])))))))
  · rw [e1]; rfl

theorem knows_holds (I : MImpl) : Rows.MixKnowsSaid :=
  OpenClaim.holds_of_wide 5 Tryd.f5 rfl rfl rfl rfl rfl rfl rfl ⟨rfl, rfl, rfl, rfl, rfl⟩ rfl rfl rfl rfl rfl (by kernel_rfl) Tryd.func5 (by kernel_rfl)
    (of_decide_eq_true (by kernel_rfl)) (by unfold Func.isWrapper; rw [if_neg (of_decide_eq_false (by kernel_rfl))]; exact ⟨rfl, rfl⟩)
    (fun os started H enc _ => knows_lifted I os started H enc)
end Go.Proofs.YtldpolbgdhgomaaDoor
