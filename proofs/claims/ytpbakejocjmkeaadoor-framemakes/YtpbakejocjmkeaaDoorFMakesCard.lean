/-
  heddlelaw06.FrameMakes: the card, given the program's frames.
-/
import Derived.Test.YtpbakejocjmkeaaDoorFMakesRow
import Derived.Test.YtpbakejocjmkeaaDoorTie
import Derived.Test.YtpbakejocjmkeaaDoorCards
import Derived.SevenTiedAt
namespace Go.Proofs.YtpbakejocjmkeaaDoor
open Go

theorem makes_card {Mem : World → Nat → (Nat → Prop) → FSt → Prop} (I : FImpl Mem) : Rows.FrameMakesCardSaid :=
  Claim7.holds_tied_plain_at .later [] [.handle] true Rows.frameMakesCard.stood.harness true
    (makes_holds I) (fun _ h => by cases h) (by kernel_rfl) (fun _ h => by cases h) frameMakes_row_tie rfl ⟨rfl, rfl⟩ (by kernel_rfl) rfl
    (fun f fn hf hfn => by
      obtain rfl : f = 3 := Option.some.inj ((show Tryd.prog.funcNamed Tryd.f3.name = some 3 by kernel_rfl).symm.trans hf) |>.symm
      obtain rfl : fn = Tryd.f3 := (Option.some.inj (Tryd.func3.symm.trans hfn)).symm
      exact ⟨by kernel_rfl, fun j t ht => by
        rw [Tryd.params3] at ht
        have h3 : t = 3 ∨ t = 22 := by
          rcases j with _ | _ | j
          · exact .inl (by simpa using ht.symm)
          · exact .inr (by simpa using ht.symm)
          · simp at ht
        rcases h3 with rfl | rfl
        · exact (show Tryd.prog.wantsStandIn 3 = false by kernel_rfl)
        · exact (show Tryd.prog.wantsStandIn 22 = false by kernel_rfl)⟩)
    (by kernel_rfl)
end Go.Proofs.YtpbakejocjmkeaaDoor
