/-
  heddlelaw05.StreamKeeps: the card, given the program's stream.
-/
import Derived.Test.YtjkmklbkemoldaaDoorKeepsRow
import Derived.Test.YtjkmklbkemoldaaDoorTie
import Derived.Test.YtjkmklbkemoldaaDoorCards
import Derived.SevenTiedAt
namespace Go.Proofs.YtjkmklbkemoldaaDoor
open Go

theorem keeps_card {Mem : World → Nat → (Nat → Prop) → St → Prop} (I : Impl Mem) : Rows.StreamKeepsCardSaid :=
  Claim7.holds_tied_plain_at .later [] [.handle] true Rows.streamKeepsCard.stood.harness true
    (keeps_holds I) (fun _ h => by cases h) (by kernel_rfl) (fun _ h => by cases h) streamKeeps_row_tie rfl ⟨rfl, rfl⟩ (by kernel_rfl) rfl
    (fun f fn hf hfn => by
      obtain rfl : f = 5 := Option.some.inj ((show Tryd.prog.funcNamed Tryd.f5.name = some 5 by kernel_rfl).symm.trans hf) |>.symm
      obtain rfl : fn = Tryd.f5 := (Option.some.inj (Tryd.func5.symm.trans hfn)).symm
      exact ⟨by kernel_rfl, fun j t ht => by
        rw [Tryd.params5] at ht
        have h3 : t = 22 := by
          rcases j with _ | j
          · simpa using ht.symm
          · simp at ht
        subst h3
        exact (show Tryd.prog.wantsStandIn 22 = false by kernel_rfl)⟩)
    (by kernel_rfl)
end Go.Proofs.YtjkmklbkemoldaaDoor
