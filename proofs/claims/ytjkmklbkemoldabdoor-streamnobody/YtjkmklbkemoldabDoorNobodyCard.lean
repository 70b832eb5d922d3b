/-
  heddlelaw05.StreamNobody: the card.
-/
import Derived.Test.YtjkmklbkemoldabDoorNobodyProof
import Derived.Test.YtjkmklbkemoldabDoorTie
import Derived.Test.YtjkmklbkemoldabDoorCards
import Derived.SevenTiedAt
namespace Go.Proofs.YtjkmklbkemoldabDoor
open Go

theorem nobody_card (h : Rows.StreamNobodySaid) : Rows.StreamNobodyCardSaid :=
  Claim7.holds_tied_plain_at .later [] [.handle] true Rows.streamNobodyCard.stood.harness true
    h (fun _ h => by cases h) (by kernel_rfl) (fun _ h => by cases h) streamNobody_row_tie rfl ⟨rfl, rfl⟩ (by kernel_rfl) rfl
    (fun f fn hf hfn => by
      obtain rfl : f = 3 := Option.some.inj ((show Tryd.prog.funcNamed Tryd.f3.name = some 3 by kernel_rfl).symm.trans hf) |>.symm
      obtain rfl : fn = Tryd.f3 := (Option.some.inj (Tryd.func3.symm.trans hfn)).symm
      exact ⟨by kernel_rfl, fun j t ht => by
        rw [Tryd.params3] at ht
        have h3 : t = 24 := by
          rcases j with _ | j
          · simpa using ht.symm
          · simp at ht
        subst h3
        exact (show Tryd.prog.wantsStandIn 24 = false by kernel_rfl)⟩)
    (by kernel_rfl)
end Go.Proofs.YtjkmklbkemoldabDoor
