/-
  heddlelaw11.ParseBelow: the card.
-/
import Derived.Test.YteninaejcbgbkaaGreatDoorPBelowRow
import Derived.Test.YteninaejcbgbkaaGreatDoorTie
import Derived.Test.YteninaejcbgbkaaGreatDoorCards
import Derived.SevenTiedAt
namespace Go.Proofs.YteninaejcbgbkaaGreatDoor
open Go

theorem pbelow_card : Rows.ParseBelowCardSaid :=
  Claim7.holds_tied_plain_at .later [] [.data, .data, .data, .data, .handle, .sentinel, .sentinel, .data, .pinned] true Rows.parseBelowCard.stood.harness true
    pbelow_holds (fun _ h => by cases h) (by kernel_rfl) (fun _ h => by cases h) parseBelow_row_tie rfl ⟨rfl, rfl⟩ (by kernel_rfl) rfl
    (fun f fn hf hfn => by
      obtain rfl : f = 3 := Option.some.inj ((show Tryz.prog.funcNamed Tryz.f3.name = some 3 by kernel_rfl).symm.trans hf) |>.symm
      obtain rfl : fn = Tryz.f3 := (Option.some.inj (Tryz.func3.symm.trans hfn)).symm
      exact ⟨by kernel_rfl, fun j t ht => by
        rw [Tryz.params3] at ht
        rcases j with _ | _ | j
        · obtain rfl : t = 22 := by simpa using ht.symm
          exact (show Tryz.prog.wantsStandIn 22 = false by kernel_rfl)
        · obtain rfl : t = 23 := by simpa using ht.symm
          exact (show Tryz.prog.wantsStandIn 23 = false by kernel_rfl)
        · simp at ht⟩)
    (by kernel_rfl)
end Go.Proofs.YteninaejcbgbkaaGreatDoor
