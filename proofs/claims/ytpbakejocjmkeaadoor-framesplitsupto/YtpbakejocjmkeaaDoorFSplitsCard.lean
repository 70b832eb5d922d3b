/-
  heddlelaw06.FrameSplits: the card, given the program's frames.
-/
import Derived.Test.YtpbakejocjmkeaaDoorFSplitsRow
import Derived.Test.YtpbakejocjmkeaaDoorTie
import Derived.Test.YtpbakejocjmkeaaDoorCards
import Derived.SevenTiedAt
namespace Go.Proofs.YtpbakejocjmkeaaDoor
open Go

theorem splits_card {Mem : World → Nat → (Nat → Prop) → FSt → Prop} (I : FImplS Mem) : Rows.FrameSplitsUptoCardSaid :=
  Claim7.holds_tied_plain_at .later [] [.handle] true Rows.frameSplitsUptoCard.stood.harness true
    (splits_holds I) (fun _ h => by cases h) (by kernel_rfl) (fun _ h => by cases h) frameSplitsUpto_row_tie rfl ⟨rfl, rfl⟩ (by kernel_rfl) rfl
    (fun f fn hf hfn => by
      obtain rfl : f = 4 := Option.some.inj ((show Tryd.prog.funcNamed Tryd.f4.name = some 4 by kernel_rfl).symm.trans hf) |>.symm
      obtain rfl : fn = Tryd.f4 := (Option.some.inj (Tryd.func4.symm.trans hfn)).symm
      exact ⟨by kernel_rfl, fun j t ht => by
        rw [Tryd.params4] at ht
        have h3 : t = 3 ∨ t = 22 := by
          rcases j with _ | _ | j
          · exact .inl (by simpa using ht.symm)
          · exact .inr (by simpa using ht.symm)
          · simp at ht
        rcases h3 with rfl | rfl
        · exact (show Tryd.prog.wantsStandIn 3 = false by kernel_rfl)
        · exact (show Tryd.prog.wantsStandIn 22 = false by kernel_rfl)⟩)
    (by kernel_rfl)
end Go.Proofs.YtpbakejocjmkeaaDoor
