/-
  heddlelaw08.ShakeBack: the card.
-/
import Derived.Test.YtmnibmgbicnamaaGreatDoorLShakeBackRow
import Derived.Test.YtmnibmgbicnamaaGreatDoorTie
import Derived.Test.YtmnibmgbicnamaaGreatDoorCards
import Derived.SevenTiedAt
namespace Go.Proofs.YtmnibmgbicnamaaGreatDoor
open Go

theorem sback_card : Rows.ShakeBackCardSaid :=
  Claim7.holds_tied_plain_at .later [] [.data, .data, .data, .handle] true Rows.shakeBackCard.stood.harness true
    sback_holds (fun _ h => by cases h) (by kernel_rfl) (fun _ h => by cases h) shakeBack_row_tie rfl ⟨rfl, rfl⟩ (by kernel_rfl) rfl
    (fun f fn hf hfn => by
      obtain rfl : f = 5 := Option.some.inj ((show Tryz.prog.funcNamed Tryz.f5.name = some 5 by kernel_rfl).symm.trans hf) |>.symm
      obtain rfl : fn = Tryz.f5 := (Option.some.inj (Tryz.func5.symm.trans hfn)).symm
      exact ⟨by kernel_rfl, fun j t ht => by
        rw [Tryz.params5] at ht
        rcases j with _ | _ | _ | j
        · obtain rfl : t = 27 := by simpa using ht.symm
          exact (show Tryz.prog.wantsStandIn 27 = false by kernel_rfl)
        · obtain rfl : t = 22 := by simpa using ht.symm
          exact (show Tryz.prog.wantsStandIn 22 = false by kernel_rfl)
        · obtain rfl : t = 25 := by simpa using ht.symm
          exact (show Tryz.prog.wantsStandIn 25 = false by kernel_rfl)
        · simp at ht⟩)
    (by kernel_rfl)
end Go.Proofs.YtmnibmgbicnamaaGreatDoor
