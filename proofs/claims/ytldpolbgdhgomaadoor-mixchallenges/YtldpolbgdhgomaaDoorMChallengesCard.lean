/-
  heddlelaw07.MixChallenges: the card, given the program's mix.
-/
import Derived.Test.YtldpolbgdhgomaaDoorMChallengesRow
import Derived.Test.YtldpolbgdhgomaaDoorTie
import Derived.Test.YtldpolbgdhgomaaDoorCards
import Derived.SevenTiedAt
namespace Go.Proofs.YtldpolbgdhgomaaDoor
open Go

theorem challenges_card {Gm : World → Nat → (Nat → Prop) → Int → Int → Prop} (I : MImpl) (G : MGen Gm) : Rows.MixChallengesCardSaid :=
  Claim7.holds_tied_plain_at .later [] [.data, .data, .data] true Rows.mixChallengesCard.stood.harness true
    (challenges_holds I G) (fun _ h => by cases h) (by kernel_rfl) (fun _ h => by cases h) mixChallenges_row_tie rfl ⟨rfl, rfl⟩ (by kernel_rfl) rfl
    (fun f fn hf hfn => by
      obtain rfl : f = 6 := Option.some.inj ((show Tryd.prog.funcNamed Tryd.f6.name = some 6 by kernel_rfl).symm.trans hf) |>.symm
      obtain rfl : fn = Tryd.f6 := (Option.some.inj (Tryd.func6.symm.trans hfn)).symm
      exact ⟨by kernel_rfl, fun j t ht => by
        rw [Tryd.params6] at ht
        rcases j with _ | _ | j
        · obtain rfl : t = 40 := by simpa using ht.symm
          exact (show Tryd.prog.wantsStandIn 40 = false by kernel_rfl)
        · obtain rfl : t = 41 := by simpa using ht.symm
          exact (show Tryd.prog.wantsStandIn 41 = false by kernel_rfl)
        · simp at ht⟩)
    (by kernel_rfl)
end Go.Proofs.YtldpolbgdhgomaaDoor
