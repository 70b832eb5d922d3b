/-
  heddlelaw05.StreamChunks: the card, given the program's stream.
-/
import Derived.Test.YtjkmklbkemoldaaDoorChunksRow
import Derived.Test.YtjkmklbkemoldaaDoorTie
import Derived.Test.YtjkmklbkemoldaaDoorCards
import Derived.SevenTiedAt
namespace Go.Proofs.YtjkmklbkemoldaaDoor
open Go

theorem chunks_card {Mem : World → Nat → (Nat → Prop) → St → Prop} (I : Impl Mem) : Rows.StreamChunksCardSaid :=
  Claim7.holds_tied_plain_at .later [] [.handle] true Rows.streamChunksCard.stood.harness true
    (chunks_holds I) (fun _ h => by cases h) (by kernel_rfl) (fun _ h => by cases h) streamChunks_row_tie rfl ⟨rfl, rfl⟩ (by kernel_rfl) rfl
    (fun f fn hf hfn => by
      obtain rfl : f = 6 := Option.some.inj ((show Tryd.prog.funcNamed Tryd.f6.name = some 6 by kernel_rfl).symm.trans hf) |>.symm
      obtain rfl : fn = Tryd.f6 := (Option.some.inj (Tryd.func6.symm.trans hfn)).symm
      exact ⟨by kernel_rfl, fun j t ht => by
        rw [Tryd.params6] at ht
        have h3 : t = 29 := by
          rcases j with _ | _ | j
          · simpa using ht.symm
          · simpa using ht.symm
          · simp at ht
        subst h3
        exact (show Tryd.prog.wantsStandIn 29 = false by kernel_rfl)⟩)
    (by kernel_rfl)
end Go.Proofs.YtjkmklbkemoldaaDoor
