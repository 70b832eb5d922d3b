/-
  heddlelaw07.MixCookies: the card, given the program's mix.
-/
import Derived.Test.YtldpolbgdhgomaaDoorMCookiesRow
import Derived.Test.YtldpolbgdhgomaaDoorTie
import Derived.Test.YtldpolbgdhgomaaDoorCards
import Derived.SevenTiedAt
namespace Go.Proofs.YtldpolbgdhgomaaDoor
open Go

theorem cookies_card (I : MImpl) : Rows.MixCookiesCardSaid :=
  Claim7.holds_tied_plain_at .later [] [.data, .data, .data, .handle] true Rows.mixCookiesCard.stood.harness true
    (cookies_holds I) (fun _ h => by cases h) (by kernel_rfl) (fun _ h => by cases h) mixCookies_row_tie rfl ⟨rfl, rfl⟩ (by kernel_rfl) rfl
    (fun f fn hf hfn => by
      obtain rfl : f = 3 := Option.some.inj ((show Tryd.prog.funcNamed Tryd.f3.name = some 3 by kernel_rfl).symm.trans hf) |>.symm
      obtain rfl : fn = Tryd.f3 := (Option.some.inj (Tryd.func3.symm.trans hfn)).symm
      exact ⟨by kernel_rfl, fun j t ht => by
        rw [Tryd.params3] at ht
        rcases j with _ | j
        · obtain rfl : t = 9 := by simpa using ht.symm
          exact (show Tryd.prog.wantsStandIn 9 = false by kernel_rfl)
        · simp at ht⟩)
    (by kernel_rfl)
end Go.Proofs.YtldpolbgdhgomaaDoor
