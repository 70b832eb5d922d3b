/-
  heddlelaw08.ShakeOwn: the card.
-/
import Derived.Test.YtmnibmgbicnamabGreatDoorLShakeOwnRow
import Derived.Test.YtmnibmgbicnamabGreatDoorTie
import Derived.Test.YtmnibmgbicnamabGreatDoorCards
import Derived.SevenTiedAt
namespace Go.Proofs.YtmnibmgbicnamabGreatDoor
open Go

theorem sown_card : Rows.ShakeOwnCardSaid :=
  Claim7.holds_tied_plain_at .later [] [.data, .data, .data, .handle] true Rows.shakeOwnCard.stood.harness true
    sown_holds (fun _ h => by cases h) (by kernel_rfl) (fun _ h => by cases h) shakeOwn_row_tie rfl ⟨rfl, rfl⟩ (by kernel_rfl) rfl
    (fun f fn hf hfn => by
      obtain rfl : f = 4 := Option.some.inj ((show Tryz.prog.funcNamed Tryz.f4.name = some 4 by kernel_rfl).symm.trans hf) |>.symm
      obtain rfl : fn = Tryz.f4 := (Option.some.inj (Tryz.func4.symm.trans hfn)).symm
      exact ⟨by kernel_rfl, fun j t ht => by
        rw [Tryz.params4] at ht
        rcases j with _ | _ | _ | j
        · obtain rfl : t = 49 := by simpa using ht.symm
          exact (show Tryz.prog.wantsStandIn 49 = false by kernel_rfl)
        · obtain rfl : t = 47 := by simpa using ht.symm
          exact (show Tryz.prog.wantsStandIn 47 = false by kernel_rfl)
        · obtain rfl : t = 22 := by simpa using ht.symm
          exact (show Tryz.prog.wantsStandIn 22 = false by kernel_rfl)
        · simp at ht⟩)
    (by kernel_rfl)
end Go.Proofs.YtmnibmgbicnamabGreatDoor
