/-
  heddlelaw11.ParseBelow: the row.
-/
import Derived.Test.YteninaejcbgbkaaGreatDoorPArgs
import Derived.Test.YteninaejcbgbkaaGreatDoorPWit
import Derived.Test.YteninaejcbgbkaaGreatDoorPLawBelow
namespace Go.Proofs.YteninaejcbgbkaaGreatDoor
open Go.ChangeShapes Go.WideShapes Go.RowKit

set_option maxRecDepth 100000 in
theorem pbelow_lifted (os : Os) (started : os.Started) (H : Type) (enc : TypeId × Value → H) :
    ReturnsInHanded {} Tryz.checked os 3 .any (fun w args => (Rows.parseBelowSpec.pre enc Tryz.prog Tryz.f3 [] false w args ∧ laidMetH Tryz.prog laidNine w) ∧ sizedMet enc Tryz.prog Tryz.f3 (OpenSpec.ofChange Rows.parseBelowSpec) false w args)
      (Rows.parseBelowSpec.post enc Tryz.prog Tryz.f3 false true false false) := by
  refine returnsInHanded_of_change_and (C := Tryz.checked) (X := fun w _ => laidMetH Tryz.prog laidNine w) (fun _ _ _ hh h => h.of_heap hh) Tryz.own started (by kernel_rfl) Tryz.func3
    (ChangeSpec.witness_at (enc := enc) (C := Tryz.checked) (os := os) (X := fun w _ => laidMetH Tryz.prog laidNine w) false (withVar (World.holding Tryz.prog os ⟨#[], #[], []⟩)) #[.slice none 0 0, .slice none 0 0] 8 rfl (by kernel_rfl) (by kernel_rfl) (by kernel_rfl) (by kernel_rfl) (by kernel_rfl) (withVar_met9 os _)) ?_
  intro W base args ds gs before hval0 hW _ hszA hL _
  have hval : ∀ (j : Nat) t v, Tryz.f3.params[j]? = some t → args[j]? = some v → Value.okWide Tryz.prog W .any base t v := hval0
  have hW' := hW
  obtain ⟨p, q, hA0, hV0, rfl, hfz, hnd⟩ := hW
  have hA : DataW.TrodAll enc Tryz.prog W 0 (fun _ => true) true Tryz.f3.params.toList args.toList ds p := hA0
  have hV : DataW.TrodVars enc Tryz.prog W (fun _ => true) [] gs q := hV0
  rw [Tryz.params3] at hA hval
  obtain ⟨v0, v1, d0, d1, p0, p1, rfl, rfl, rfl, h0, h1⟩ := trodAll_two hA
  obtain ⟨rfl, rfl⟩ := trodVars_none hV
  have hsz0 : (∀ k ∈ d0.weights Tryz.prog 22, k ≤ reachBytes) := fun k hk => by
    have h1 : ((DataW.weightsEach Tryz.prog (Tryz.f3.params.toList ++ []) ([d0, d1] ++ [])).all (· ≤ reachBytes)) = true := hszA
    rw [Tryz.params3] at h1
    exact of_decide_eq_true (List.all_eq_true.1 h1 k (by simp [DataW.weightsEach, hk]))
  have hsz1 : (∀ k ∈ d1.weights Tryz.prog 23, k ≤ reachBytes) := fun k hk => by
    have h1 : ((DataW.weightsEach Tryz.prog (Tryz.f3.params.toList ++ []) ([d0, d1] ++ [])).all (· ≤ reachBytes)) = true := hszA
    rw [Tryz.params3] at h1
    exact of_decide_eq_true (List.all_eq_true.1 h1 k (by simp [DataW.weightsEach, hk]))
  have hsg : SgAt W := signs9 hL
  obtain ⟨K, hK, hKl⟩ := nodes_of_trod (hval 0 22 v0 rfl rfl) h0 hsz0
  obtain ⟨l1, hl1⟩ := nums_of_trod (hval 1 23 v1 rfl rfl) h1 hsz1
  refine (law_below hK hl1 hKl hsg).mono fun ev W' ⟨he, hb⟩ => ?_
  subst he
  have e1 : Rows.parseBelowSpec.fn H ([d0, d1] ++ []) = { results := [.lit (.bool true)], args := [d0, d1] } := rfl
  refine ⟨_, rfl, _, _, _, [], p0 ++ p1, [], hW', ?_, ?_, ?_, hb.frame _, fun h => by cases h⟩
  · rw [e1]; exact trodAll_mk1 (shut_bool Tryz.underlying4 true)
  · rw [e1]
    exact trodAll_cons_mk (Below.trod Tryz.laidOut (by kernel_rfl) (of_decide_eq_true (by kernel_rfl)) h0 hb (fun z hz => by simpa using hW'.lt z (by simp [hz]))) (trodAll_mk1 (Below.trod Tryz.laidOut (by kernel_rfl) (of_decide_eq_true (by kernel_rfl)) h1 hb (fun z hz => by simpa using hW'.lt z (by simp [hz]))))
  · rw [e1]; rfl

theorem pbelow_holds : Rows.ParseBelowSaid :=
  OpenClaim.holds_of_wide 3 Tryz.f3 rfl rfl rfl rfl rfl rfl rfl ⟨rfl, rfl, rfl, rfl, rfl⟩ rfl rfl rfl rfl rfl (by kernel_rfl) Tryz.func3 (by kernel_rfl)
    (of_decide_eq_true (by kernel_rfl)) (by unfold Func.isWrapper; rw [if_neg (of_decide_eq_false (by kernel_rfl))]; exact ⟨rfl, rfl⟩)
    (fun os started H enc _ => pbelow_lifted os started H enc)
end Go.Proofs.YteninaejcbgbkaaGreatDoor
