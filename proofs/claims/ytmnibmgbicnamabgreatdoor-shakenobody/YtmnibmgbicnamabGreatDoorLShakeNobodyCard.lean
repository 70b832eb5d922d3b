/-
  heddlelaw08.ShakeNobody: the card.
-/
import Derived.Test.YtmnibmgbicnamabGreatDoorLShakeNobodyRow
import Derived.Test.YtmnibmgbicnamabGreatDoorTie
import Derived.Test.YtmnibmgbicnamabGreatDoorCards
import Derived.SevenTiedAt
namespace Go.Proofs.YtmnibmgbicnamabGreatDoor
open Go

theorem snobody_card : Rows.ShakeNobodyCardSaid :=
  Claim7.holds_tied_plain_at .later [] [.data, .data, .data, .handle] true Rows.shakeNobodyCard.stood.harness true
    snobody_holds (fun _ h => by cases h) (by kernel_rfl) (fun _ h => by cases h) shakeNobody_row_tie rfl ⟨rfl, rfl⟩ (by kernel_rfl) rfl
    (fun f fn hf hfn => by
      obtain rfl : f = 3 := Option.some.inj ((show Tryz.prog.funcNamed Tryz.f3.name = some 3 by kernel_rfl).symm.trans hf) |>.symm
      obtain rfl : fn = Tryz.f3 := (Option.some.inj (Tryz.func3.symm.trans hfn)).symm
      exact ⟨by kernel_rfl, fun j t ht => by
        rw [Tryz.params3] at ht
        rcases j with _ | _ | j
        · obtain rfl : t = 22 := by simpa using ht.symm
          exact (show Tryz.prog.wantsStandIn 22 = false by kernel_rfl)
        · obtain rfl : t = 9 := by simpa using ht.symm
          exact (show Tryz.prog.wantsStandIn 9 = false by kernel_rfl)
        · simp at ht⟩)
    (by kernel_rfl)
end Go.Proofs.YtmnibmgbicnamabGreatDoor
