/-
  heddlelaw08.ShakePlays: the card.
-/
import Derived.Test.YtmnibmgbicnamaaGreatDoorLShakePlaysRow
import Derived.Test.YtmnibmgbicnamaaGreatDoorTie
import Derived.Test.YtmnibmgbicnamaaGreatDoorCards
import Derived.SevenTiedAt
namespace Go.Proofs.YtmnibmgbicnamaaGreatDoor
open Go

theorem splays_card : Rows.ShakePlaysCardSaid :=
  Claim7.holds_tied_plain_at .later [] [.data, .data, .data, .handle] true Rows.shakePlaysCard.stood.harness true
    splays_holds (fun _ h => by cases h) (by kernel_rfl) (fun _ h => by cases h) shakePlays_row_tie rfl ⟨rfl, rfl⟩ (by kernel_rfl) rfl
    (fun f fn hf hfn => by
      obtain rfl : f = 6 := Option.some.inj ((show Tryz.prog.funcNamed Tryz.f6.name = some 6 by kernel_rfl).symm.trans hf) |>.symm
      obtain rfl : fn = Tryz.f6 := (Option.some.inj (Tryz.func6.symm.trans hfn)).symm
      exact ⟨by kernel_rfl, fun j t ht => by
        rw [Tryz.params6] at ht
        rcases j with _ | _ | j
        · obtain rfl : t = 48 := by simpa using ht.symm
          exact (show Tryz.prog.wantsStandIn 48 = false by kernel_rfl)
        · obtain rfl : t = 49 := by simpa using ht.symm
          exact (show Tryz.prog.wantsStandIn 49 = false by kernel_rfl)
        · simp at ht⟩)
    (by kernel_rfl)
end Go.Proofs.YtmnibmgbicnamaaGreatDoor
