/-
  heddlelaw06.FrameMakes: the row, given the program's frames.
-/
import Derived.Test.YtpbakejocjmkeaaDoorFRowBase
import Derived.Test.YtpbakejocjmkeaaDoorFMakes
namespace Go.Proofs.YtpbakejocjmkeaaDoor
open Go.ChangeShapes Go.WideShapes Go.RowKit

set_option maxRecDepth 100000 in
theorem makes_lifted {Mem : World → Nat → (Nat → Prop) → FSt → Prop} (I : FImpl Mem) (os : Os) (started : os.Started) (H : Type) (enc : TypeId × Value → H) :
    ReturnsInHanded {} Tryd.checked os 3 .any (fun w args => (Rows.frameMakesSpec.pre enc Tryd.prog Tryd.f3 [] false w args ∧ laidMetH Tryd.prog [("errors.errorType", Rows.laid_errors_errorType)] w) ∧ sizedMet enc Tryd.prog Tryd.f3 (OpenSpec.ofChange Rows.frameMakesSpec) false w args)
      (Rows.frameMakesSpec.post enc Tryd.prog Tryd.f3 false true false false) := by
  refine returnsInHanded_of_change_and (C := Tryd.checked) (X := fun w _ => laidMetH Tryd.prog [("errors.errorType", Rows.laid_errors_errorType)] w) (fun _ _ _ hh h => h.of_heap hh) Tryd.own started (by kernel_rfl) Tryd.func3
    (ChangeSpec.witness_at (enc := enc) (C := Tryd.checked) (os := os) (X := fun w _ => laidMetH Tryd.prog [("errors.errorType", Rows.laid_errors_errorType)] w) false (withVar (World.holding Tryd.prog os ⟨#[], #[], []⟩)) #[.int .i64 0, .slice none 0 0] 8 rfl (by kernel_rfl) (by kernel_rfl) (by kernel_rfl) (by kernel_rfl) (by kernel_rfl) (withVar_met os _)) ?_
  intro W base args ds gs before hval0 hW _ hsz0 hL _
  have hval : ∀ (j : Nat) t v, Tryd.f3.params[j]? = some t → args[j]? = some v → Value.okWide Tryd.prog W .any base t v := hval0
  have hW' := hW
  obtain ⟨p, q, hA0, hV0, rfl, hfz, hnd⟩ := hW
  have hA : DataW.TrodAll enc Tryd.prog W 0 (fun _ => true) true Tryd.f3.params.toList args.toList ds p := hA0
  have hV : DataW.TrodVars enc Tryd.prog W (fun _ => true) [] gs q := hV0
  rw [Tryd.params3] at hA hval
  obtain ⟨v0, v1, d0, d1, p0, p1, rfl, rfl, rfl, h0, h1⟩ := trodAll_two hA
  obtain ⟨rfl, rfl⟩ := trodVars_none hV
  have hsz : (∀ k ∈ d1.weights Tryd.prog 22, k ≤ reachBytes) := fun k hk => by
    have h1 : ((DataW.weightsEach Tryd.prog (Tryd.f3.params.toList ++ []) ([d0, d1] ++ [])).all (· ≤ reachBytes)) = true := hsz0
    rw [Tryd.params3] at h1
    exact of_decide_eq_true (List.all_eq_true.1 h1 k (by simp [DataW.weightsEach, hk]))
  have hg : Er W := cell_of_laid hL
  obtain ⟨n, rfl⟩ : ∃ n : Int, v0 = .int .i64 n := by
    obtain ⟨fuel, hf⟩ := h0
    obtain ⟨n, hn, _⟩ := DataW.trod_int Tryd.underlying3 hf
    obtain ⟨m, hm⟩ := okWide_int Tryd.underlying3 (hval 0 3 v0 rfl rfl)
    exact ⟨m, hm⟩
  obtain ⟨bs, hx, hbs, hrg⟩ := bytes_of_trod (hval 1 22 v1 rfl rfl) h1
  refine (makes_any I n v1 bs W hg hx (Nat.le_trans hbs (places_small hsz))).mono fun ev W' ⟨he, hb⟩ => ?_
  subst he
  have e1 : Rows.frameMakesSpec.fn H ([d0, d1] ++ []) = { results := [.lit (.bool true)], args := [d0, d1] } := rfl
  refine ⟨_, rfl, _, _, _, [], p0 ++ p1, [], hW', ?_, ?_, ?_, hb.frame _, fun h => by cases h⟩
  · rw [e1]; exact trodAll_mk1 (shut_bool Tryd.underlying4 true)
  · rw [e1]
    exact trodAll_mk2 (Below.trod Tryd.laidOut (by kernel_rfl) (of_decide_eq_true (by kernel_rfl)) h0 hb (fun z hz => by simpa using hW'.lt z (by simp [hz]))) (Below.trod Tryd.laidOut (by kernel_rfl) (of_decide_eq_true (by kernel_rfl)) h1 hb (fun z hz => by simpa using hW'.lt z (by simp [hz])))
  · rw [e1]; rfl

theorem makes_holds {Mem : World → Nat → (Nat → Prop) → FSt → Prop} (I : FImpl Mem) : Rows.FrameMakesSaid :=
  OpenClaim.holds_of_wide 3 Tryd.f3 rfl rfl rfl rfl rfl rfl rfl ⟨rfl, rfl, rfl, rfl, rfl⟩ rfl rfl rfl rfl rfl (by kernel_rfl) Tryd.func3 (by kernel_rfl)
    (of_decide_eq_true (by kernel_rfl)) (by unfold Func.isWrapper; rw [if_neg (of_decide_eq_false (by kernel_rfl))]; exact ⟨rfl, rfl⟩)
    (fun os started H enc _ => makes_lifted I os started H enc)
end Go.Proofs.YtpbakejocjmkeaaDoor
