/-
  heddlelaw11.ParseSame: the card of the second form.
-/
import Derived.Test.YtipdmmncgenppaaGreatDoorPSameRow
import Derived.Test.YtipdmmncgenppaaGreatDoorTie
import Derived.Test.YtipdmmncgenppaaGreatDoorCards
import Derived.SevenTiedAt
namespace Go.Proofs.YtipdmmncgenppaaGreatDoor
open Go

theorem psame_card : Rows.ParseSameUptoCardSaid :=
  Claim7.holds_tied_plain_at .later [] [.data, .data, .data, .data, .handle, .sentinel, .sentinel, .data, .pinned] true Rows.parseSameUptoCard.stood.harness true
    psame_holds (fun _ h => by cases h) (by kernel_rfl) (fun _ h => by cases h) parseSameUpto_row_tie rfl ⟨rfl, rfl⟩ (by kernel_rfl) rfl
    (fun f fn hf hfn => by
      obtain rfl : f = 4 := Option.some.inj ((show Tryz.prog.funcNamed Tryz.f4.name = some 4 by kernel_rfl).symm.trans hf) |>.symm
      obtain rfl : fn = Tryz.f4 := (Option.some.inj (Tryz.func4.symm.trans hfn)).symm
      exact ⟨by kernel_rfl, fun j t ht => by
        rw [Tryz.params4] at ht
        have h3 : t = 3 ∨ t = 22 := by
          rcases j with _ | _ | _ | _ | j
          · exact .inr (by simpa using ht.symm)
          · exact .inl (by simpa using ht.symm)
          · exact .inr (by simpa using ht.symm)
          · exact .inl (by simpa using ht.symm)
          · simp at ht
        rcases h3 with rfl | rfl
        · exact (show Tryz.prog.wantsStandIn 3 = false by kernel_rfl)
        · exact (show Tryz.prog.wantsStandIn 22 = false by kernel_rfl)⟩)
    (by kernel_rfl)
end Go.Proofs.YtipdmmncgenppaaGreatDoor
