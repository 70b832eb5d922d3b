/-
  heddlelaw05.StreamOwn: the card, given the program's stream.
-/
import Derived.Test.YtjkmklbkemoldaaDoorOwnRow
import Derived.Test.YtjkmklbkemoldaaDoorTie
import Derived.Test.YtjkmklbkemoldaaDoorCards
import Derived.SevenTiedAt
namespace Go.Proofs.YtjkmklbkemoldaaDoor
open Go

theorem own_card {Mem : World → Nat → (Nat → Prop) → St → Prop} (I : ImplOwn Mem) : Rows.StreamOwnCardSaid :=
  Claim7.holds_tied_plain_at .later [] [.handle] true Rows.streamOwnCard.stood.harness true
    (own_holds I) (fun _ h => by cases h) (by kernel_rfl) (fun _ h => by cases h) streamOwn_row_tie rfl ⟨rfl, rfl⟩ (by kernel_rfl) rfl
    (fun f fn hf hfn => by
      obtain rfl : f = 8 := Option.some.inj ((show Tryd.prog.funcNamed Tryd.f8.name = some 8 by kernel_rfl).symm.trans hf) |>.symm
      obtain rfl : fn = Tryd.f8 := (Option.some.inj (Tryd.func8.symm.trans hfn)).symm
      exact ⟨by kernel_rfl, fun j t ht => by
        rw [Tryd.params8] at ht
        have h3 : t = 29 := by
          rcases j with _ | j
          · simpa using ht.symm
          · simp at ht
        subst h3
        exact (show Tryd.prog.wantsStandIn 29 = false by kernel_rfl)⟩)
    (by kernel_rfl)
end Go.Proofs.YtjkmklbkemoldaaDoor
