/-
  heddlelaw05.StreamFull: the card, given the program's stream.
-/
import Derived.Test.YtjkmklbkemoldaaDoorFullRow
import Derived.Test.YtjkmklbkemoldaaDoorTie
import Derived.Test.YtjkmklbkemoldaaDoorCards
import Derived.SevenTiedAt
namespace Go.Proofs.YtjkmklbkemoldaaDoor
open Go

theorem full_card {Mem : World → Nat → (Nat → Prop) → St → Prop} (I : Impl Mem) : Rows.StreamFullCardSaid :=
  Claim7.holds_tied_plain_at .later [] [.handle] true Rows.streamFullCard.stood.harness true
    (full_holds I) (fun _ h => by cases h) (by kernel_rfl) (fun _ h => by cases h) streamFull_row_tie rfl ⟨rfl, rfl⟩ (by kernel_rfl) rfl
    (fun f fn hf hfn => by
      obtain rfl : f = 7 := Option.some.inj ((show Tryd.prog.funcNamed Tryd.f7.name = some 7 by kernel_rfl).symm.trans hf) |>.symm
      obtain rfl : fn = Tryd.f7 := (Option.some.inj (Tryd.func7.symm.trans hfn)).symm
      exact ⟨by kernel_rfl, fun j t ht => by
        rw [Tryd.params7] at ht
        have h3 : t = 49 := by
          rcases j with _ | j
          · simpa using ht.symm
          · simp at ht
        subst h3
        exact (show Tryd.prog.wantsStandIn 49 = false by kernel_rfl)⟩)
    (by kernel_rfl)
end Go.Proofs.YtjkmklbkemoldaaDoor
