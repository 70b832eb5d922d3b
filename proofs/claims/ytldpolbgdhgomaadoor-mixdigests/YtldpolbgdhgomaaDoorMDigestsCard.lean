/-
  heddlelaw07.MixDigests: the card, given the program's mix.
-/
import Derived.Test.YtldpolbgdhgomaaDoorMDigestsRow
import Derived.Test.YtldpolbgdhgomaaDoorTie
import Derived.Test.YtldpolbgdhgomaaDoorCards
import Derived.SevenTiedAt
namespace Go.Proofs.YtldpolbgdhgomaaDoor
open Go

theorem digests_card (I : MImpl) : Rows.MixDigestsCardSaid :=
  Claim7.holds_tied_plain_at .later [] [.data, .data, .data, .handle] true Rows.mixDigestsCard.stood.harness true
    (digests_holds I) (fun _ h => by cases h) (by kernel_rfl) (fun _ h => by cases h) mixDigests_row_tie rfl ⟨rfl, rfl⟩ (by kernel_rfl) rfl
    (fun f fn hf hfn => by
      obtain rfl : f = 4 := Option.some.inj ((show Tryd.prog.funcNamed Tryd.f4.name = some 4 by kernel_rfl).symm.trans hf) |>.symm
      obtain rfl : fn = Tryd.f4 := (Option.some.inj (Tryd.func4.symm.trans hfn)).symm
      exact ⟨by kernel_rfl, fun j t ht => by
        rw [Tryd.params4] at ht
        rcases j with _ | _ | j
        · obtain rfl : t = 9 := by simpa using ht.symm
          exact (show Tryd.prog.wantsStandIn 9 = false by kernel_rfl)
        · obtain rfl : t = 30 := by simpa using ht.symm
          exact (show Tryd.prog.wantsStandIn 30 = false by kernel_rfl)
        · simp at ht⟩)
    (by kernel_rfl)
end Go.Proofs.YtldpolbgdhgomaaDoor
