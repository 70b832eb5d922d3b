/-
  heddlelaw05.StreamOrders: the card of the second form, given the program's stream.
-/
import Derived.Test.YtjkmklbkemoldaaDoorOrdersRow
import Derived.Test.YtjkmklbkemoldaaDoorTie
import Derived.Test.YtjkmklbkemoldaaDoorCards
import Derived.SevenTiedAt
namespace Go.Proofs.YtjkmklbkemoldaaDoor
open Go

theorem orders_card {Mem : World → Nat → (Nat → Prop) → St → Prop} (I : Impl Mem) : Rows.StreamOrdersUptoCardSaid :=
  Claim7.holds_tied_plain_at .later [] [.handle] true Rows.streamOrdersUptoCard.stood.harness true
    (orders_holds I) (fun _ h => by cases h) (by kernel_rfl) (fun _ h => by cases h) streamOrdersUpto_row_tie rfl ⟨rfl, rfl⟩ (by kernel_rfl) rfl
    (fun f fn hf hfn => by
      obtain rfl : f = 4 := Option.some.inj ((show Tryd.prog.funcNamed Tryd.f4.name = some 4 by kernel_rfl).symm.trans hf) |>.symm
      obtain rfl : fn = Tryd.f4 := (Option.some.inj (Tryd.func4.symm.trans hfn)).symm
      exact ⟨by kernel_rfl, fun j t ht => by
        rw [Tryd.params4] at ht
        have h3 : t = 22 := by
          rcases j with _ | j
          · simpa using ht.symm
          · simp at ht
        subst h3
        exact (show Tryd.prog.wantsStandIn 22 = false by kernel_rfl)⟩)
    (by kernel_rfl)
end Go.Proofs.YtjkmklbkemoldaaDoor
