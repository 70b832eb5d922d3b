/-
  heddlelaw06.FramePlays: the card, given the program's frames.
-/
import Derived.Test.YtpbakejocjmkeaaDoorFPlaysRow
import Derived.Test.YtpbakejocjmkeaaDoorTie
import Derived.Test.YtpbakejocjmkeaaDoorCards
import Derived.SevenTiedAt
namespace Go.Proofs.YtpbakejocjmkeaaDoor
open Go

theorem plays_card {Mem : World → Nat → (Nat → Prop) → FSt → Prop} (I : FImpl Mem) : Rows.FramePlaysCardSaid :=
  Claim7.holds_tied_plain_at .later [] [.handle] true Rows.framePlaysCard.stood.harness true
    (plays_holds I) (fun _ h => by cases h) (by kernel_rfl) (fun _ h => by cases h) framePlays_row_tie rfl ⟨rfl, rfl⟩ (by kernel_rfl) rfl
    (fun f fn hf hfn => by
      obtain rfl : f = 5 := Option.some.inj ((show Tryd.prog.funcNamed Tryd.f5.name = some 5 by kernel_rfl).symm.trans hf) |>.symm
      obtain rfl : fn = Tryd.f5 := (Option.some.inj (Tryd.func5.symm.trans hfn)).symm
      exact ⟨by kernel_rfl, fun j t ht => by
        rw [Tryd.params5] at ht
        have h3 : t = 3 ∨ t = 39 := by
          rcases j with _ | _ | j
          · exact .inl (by simpa using ht.symm)
          · exact .inr (by simpa using ht.symm)
          · simp at ht
        rcases h3 with rfl | rfl
        · exact (show Tryd.prog.wantsStandIn 3 = false by kernel_rfl)
        · exact (show Tryd.prog.wantsStandIn 39 = false by kernel_rfl)⟩)
    (by kernel_rfl)
end Go.Proofs.YtpbakejocjmkeaaDoor
