/-
  heddlelaw06.FrameNobody: the card.
-/
import Derived.Test.YtpbakejocjmkeaaDoorFNobodyRow
import Derived.Test.YtpbakejocjmkeaaDoorTie
import Derived.Test.YtpbakejocjmkeaaDoorCards
import Derived.SevenTiedAt
namespace Go.Proofs.YtpbakejocjmkeaaDoor
open Go

theorem nobody_card : Rows.FrameNobodyCardSaid :=
  Claim7.holds_tied_plain_at .later [] [.handle] true Rows.frameNobodyCard.stood.harness true
    nobody_holds (fun _ h => by cases h) (by kernel_rfl) (fun _ h => by cases h) frameNobody_row_tie rfl ⟨rfl, rfl⟩ (by kernel_rfl) rfl
    (fun f fn hf hfn => by
      obtain rfl : f = 6 := Option.some.inj ((show Tryd.prog.funcNamed Tryd.f6.name = some 6 by kernel_rfl).symm.trans hf) |>.symm
      obtain rfl : fn = Tryd.f6 := (Option.some.inj (Tryd.func6.symm.trans hfn)).symm
      exact ⟨by kernel_rfl, fun j t ht => by
        rw [Tryd.params6] at ht
        have h3 : t = 22 := by
          rcases j with _ | j
          · simpa using ht.symm
          · simp at ht
        subst h3
        exact (show Tryd.prog.wantsStandIn 22 = false by kernel_rfl)⟩)
    (by kernel_rfl)
end Go.Proofs.YtpbakejocjmkeaaDoor
