/-
  heddlelaw08.ShakeMeets: the card.
-/
import Derived.Test.YtmnibmgbicnamaaGreatDoorLShakeMeetsRow
import Derived.Test.YtmnibmgbicnamaaGreatDoorTie
import Derived.Test.YtmnibmgbicnamaaGreatDoorCards
import Derived.SevenTiedAt
namespace Go.Proofs.YtmnibmgbicnamaaGreatDoor
open Go

theorem smeets_card : Rows.ShakeMeetsCardSaid :=
  Claim7.holds_tied_plain_at .later [] [.data, .data, .data, .handle] true Rows.shakeMeetsCard.stood.harness true
    smeets_holds (fun _ h => by cases h) (by kernel_rfl) (fun _ h => by cases h) shakeMeets_row_tie rfl ⟨rfl, rfl⟩ (by kernel_rfl) rfl
    (fun f fn hf hfn => by
      obtain rfl : f = 7 := Option.some.inj ((show Tryz.prog.funcNamed Tryz.f7.name = some 7 by kernel_rfl).symm.trans hf) |>.symm
      obtain rfl : fn = Tryz.f7 := (Option.some.inj (Tryz.func7.symm.trans hfn)).symm
      exact ⟨by kernel_rfl, fun j t ht => by
        rw [Tryz.params7] at ht
        rcases j with _ | j
        · obtain rfl : t = 74 := by simpa using ht.symm
          exact (show Tryz.prog.wantsStandIn 74 = false by kernel_rfl)
        · simp at ht⟩)
    (by kernel_rfl)
end Go.Proofs.YtmnibmgbicnamaaGreatDoor
