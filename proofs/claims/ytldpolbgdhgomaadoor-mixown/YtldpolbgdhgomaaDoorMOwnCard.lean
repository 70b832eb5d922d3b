/-
  heddlelaw07.MixOwn: the card, given the program's mix.
-/
import Derived.Test.YtldpolbgdhgomaaDoorMOwnRow
import Derived.Test.YtldpolbgdhgomaaDoorTie
import Derived.Test.YtldpolbgdhgomaaDoorCards
import Derived.SevenTiedAt
namespace Go.Proofs.YtldpolbgdhgomaaDoor
open Go

theorem own_card {No : World → Value → Prop} (I : MImpl) (G : MNo No) : Rows.MixOwnCardSaid :=
  Claim7.holds_tied_plain_at .later [] [.data, .data, .data, .handle] true Rows.mixOwnCard.stood.harness true
    (own_holds I G) (fun _ h => by cases h) (by kernel_rfl) (fun _ h => by cases h) mixOwn_row_tie rfl ⟨rfl, rfl⟩ (by kernel_rfl) rfl
    (fun f fn hf hfn => by
      obtain rfl : f = 7 := Option.some.inj ((show Tryd.prog.funcNamed Tryd.f7.name = some 7 by kernel_rfl).symm.trans hf) |>.symm
      obtain rfl : fn = Tryd.f7 := (Option.some.inj (Tryd.func7.symm.trans hfn)).symm
      exact ⟨by kernel_rfl, fun j t ht => by
        rw [Tryd.params7] at ht
        rcases j with _ | _ | j
        · obtain rfl : t = 9 := by simpa using ht.symm
          exact (show Tryd.prog.wantsStandIn 9 = false by kernel_rfl)
        · obtain rfl : t = 30 := by simpa using ht.symm
          exact (show Tryd.prog.wantsStandIn 30 = false by kernel_rfl)
        · simp at ht⟩)
    (by kernel_rfl)
end Go.Proofs.YtldpolbgdhgomaaDoor
