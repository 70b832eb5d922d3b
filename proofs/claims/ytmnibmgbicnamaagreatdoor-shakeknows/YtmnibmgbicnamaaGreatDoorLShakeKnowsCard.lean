/-
  heddlelaw08.ShakeKnows: the card.
-/
import Derived.Test.YtmnibmgbicnamaaGreatDoorLShakeKnowsRow
import Derived.Test.YtmnibmgbicnamaaGreatDoorTie
import Derived.Test.YtmnibmgbicnamaaGreatDoorCards
import Derived.SevenTiedAt
namespace Go.Proofs.YtmnibmgbicnamaaGreatDoor
open Go

theorem sknows_card : Rows.ShakeKnowsCardSaid :=
  Claim7.holds_tied_plain_at .later [] [.data, .data, .data, .handle] true Rows.shakeKnowsCard.stood.harness true
    sknows_holds (fun _ h => by cases h) (by kernel_rfl) (fun _ h => by cases h) shakeKnows_row_tie rfl ⟨rfl, rfl⟩ (by kernel_rfl) rfl
    (fun f fn hf hfn => by
      obtain rfl : f = 8 := Option.some.inj ((show Tryz.prog.funcNamed Tryz.f8.name = some 8 by kernel_rfl).symm.trans hf) |>.symm
      obtain rfl : fn = Tryz.f8 := (Option.some.inj (Tryz.func8.symm.trans hfn)).symm
      exact ⟨by kernel_rfl, fun j t ht => by
        rw [Tryz.params8] at ht
        rcases j with _ | _ | j
        · obtain rfl : t = 48 := by simpa using ht.symm
          exact (show Tryz.prog.wantsStandIn 48 = false by kernel_rfl)
        · obtain rfl : t = 49 := by simpa using ht.symm
          exact (show Tryz.prog.wantsStandIn 49 = false by kernel_rfl)
        · simp at ht⟩)
    (by kernel_rfl)
end Go.Proofs.YtmnibmgbicnamaaGreatDoor
