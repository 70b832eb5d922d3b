/-
  DERIVED. GIVEN WITH THE SEED: THE CARDS: each row of YtldpolbgdhgomaaDoorRows.lean that lists a variable, with what it lists TIED to the program's text (the seventh form; the later family's looks); each row that meets fmt, with fmt's text TOLD by the authors' own Lean function (tested against real Go, not proved from fmt's source: count such statements apart). THE CARD IS WHAT COUNTS. Prove the row's statement (the work); the ties are given (YtldpolbgdhgomaaDoorTie.lean); close each card by the builder's one call (the guide's Derived/Test/ToyasCard.lean, 'card_holds'). Laid BY PROGRAM, IN A SANDBOX (cutbox-door.mjs). By AI agents, Wed Nov 11 2026. No macro, syntax, notation, axiom, sorry.
-/
import Derived.Test.YtldpolbgdhgomaaDoorRows
import GoSem.ClaimSeven
namespace Go.Proofs.YtldpolbgdhgomaaDoor
namespace Rows

/-- THE TIED CARD OF 'heddlelaw07.MixCookies'. -/
def mixCookiesCard : Claim7 := { stood := { row := mixCookiesRow, standIns := [], harness := (true, "358f00b911cb8550ba91ffc14cfaf8852e32a1a24eca468afa2c240ee1c98363"), looks := true }, kinds := [], alts := [], laidByText := true, laidKinds := [.data, .data, .data, .handle], laidTests := true, laidLooks := .later }
def MixCookiesCardSaid : Prop := Claim7.holds Tryd.pinned (.plain (OpenSpec.ofChange mixCookiesSpec)) mixCookiesCard

/-- THE TIED CARD OF 'heddlelaw07.MixDigests'. -/
def mixDigestsCard : Claim7 := { stood := { row := mixDigestsRow, standIns := [], harness := (true, "358f00b911cb8550ba91ffc14cfaf8852e32a1a24eca468afa2c240ee1c98363"), looks := true }, kinds := [], alts := [], laidByText := true, laidKinds := [.data, .data, .data, .handle], laidTests := true, laidLooks := .later }
def MixDigestsCardSaid : Prop := Claim7.holds Tryd.pinned (.plain (OpenSpec.ofChange mixDigestsSpec)) mixDigestsCard

/-- THE TIED CARD OF 'heddlelaw07.MixKnows'. -/
def mixKnowsCard : Claim7 := { stood := { row := mixKnowsRow, standIns := [], harness := (true, "358f00b911cb8550ba91ffc14cfaf8852e32a1a24eca468afa2c240ee1c98363"), looks := true }, kinds := [], alts := [], laidByText := true, laidKinds := [.data, .data, .data], laidTests := true, laidLooks := .later }
def MixKnowsCardSaid : Prop := Claim7.holds Tryd.pinned (.plain (OpenSpec.ofChange mixKnowsSpec)) mixKnowsCard

/-- THE TIED CARD OF 'heddlelaw07.MixChallenges'. -/
def mixChallengesCard : Claim7 := { stood := { row := mixChallengesRow, standIns := [], harness := (true, "358f00b911cb8550ba91ffc14cfaf8852e32a1a24eca468afa2c240ee1c98363"), looks := true }, kinds := [], alts := [], laidByText := true, laidKinds := [.data, .data, .data], laidTests := true, laidLooks := .later }
def MixChallengesCardSaid : Prop := Claim7.holds Tryd.pinned (.plain (OpenSpec.ofChange mixChallengesSpec)) mixChallengesCard

/-- THE TIED CARD OF 'heddlelaw07.MixOwn'. -/
def mixOwnCard : Claim7 := { stood := { row := mixOwnRow, standIns := [], harness := (true, "358f00b911cb8550ba91ffc14cfaf8852e32a1a24eca468afa2c240ee1c98363"), looks := true }, kinds := [], alts := [], laidByText := true, laidKinds := [.data, .data, .data, .handle], laidTests := true, laidLooks := .later }
def MixOwnCardSaid : Prop := Claim7.holds Tryd.pinned (.plain (OpenSpec.ofChange mixOwnSpec)) mixOwnCard

/-- THE SECOND FORM's CARD OF 'heddlelaw07.MixCookies'. -/
def mixCookiesUptoCard : Claim7 := { stood := { row := mixCookiesUptoRow, standIns := [], harness := (true, "358f00b911cb8550ba91ffc14cfaf8852e32a1a24eca468afa2c240ee1c98363"), looks := true }, kinds := [], alts := [], laidByText := true, laidKinds := [.data, .data, .data, .handle], laidTests := true, laidLooks := .later }
def MixCookiesUptoCardSaid : Prop := Claim7.holds Tryd.pinned (.plain (OpenSpec.upto mixCookiesSpec)) mixCookiesUptoCard

/-- THE SECOND FORM's CARD OF 'heddlelaw07.MixDigests'. -/
def mixDigestsUptoCard : Claim7 := { stood := { row := mixDigestsUptoRow, standIns := [], harness := (true, "358f00b911cb8550ba91ffc14cfaf8852e32a1a24eca468afa2c240ee1c98363"), looks := true }, kinds := [], alts := [], laidByText := true, laidKinds := [.data, .data, .data, .handle], laidTests := true, laidLooks := .later }
def MixDigestsUptoCardSaid : Prop := Claim7.holds Tryd.pinned (.plain (OpenSpec.upto mixDigestsSpec)) mixDigestsUptoCard

/-- THE SECOND FORM's CARD OF 'heddlelaw07.MixKnows'. -/
def mixKnowsUptoCard : Claim7 := { stood := { row := mixKnowsUptoRow, standIns := [], harness := (true, "358f00b911cb8550ba91ffc14cfaf8852e32a1a24eca468afa2c240ee1c98363"), looks := true }, kinds := [], alts := [], laidByText := true, laidKinds := [.data, .data, .data], laidTests := true, laidLooks := .later }
def MixKnowsUptoCardSaid : Prop := Claim7.holds Tryd.pinned (.plain (OpenSpec.upto mixKnowsSpec)) mixKnowsUptoCard

/-- THE SECOND FORM's CARD OF 'heddlelaw07.MixChallenges'. -/
def mixChallengesUptoCard : Claim7 := { stood := { row := mixChallengesUptoRow, standIns := [], harness := (true, "358f00b911cb8550ba91ffc14cfaf8852e32a1a24eca468afa2c240ee1c98363"), looks := true }, kinds := [], alts := [], laidByText := true, laidKinds := [.data, .data, .data], laidTests := true, laidLooks := .later }
def MixChallengesUptoCardSaid : Prop := Claim7.holds Tryd.pinned (.plain (OpenSpec.upto mixChallengesSpec)) mixChallengesUptoCard

/-- THE SECOND FORM's CARD OF 'heddlelaw07.MixOwn'. -/
def mixOwnUptoCard : Claim7 := { stood := { row := mixOwnUptoRow, standIns := [], harness := (true, "358f00b911cb8550ba91ffc14cfaf8852e32a1a24eca468afa2c240ee1c98363"), looks := true }, kinds := [], alts := [], laidByText := true, laidKinds := [.data, .data, .data, .handle], laidTests := true, laidLooks := .later }
def MixOwnUptoCardSaid : Prop := Claim7.holds Tryd.pinned (.plain (OpenSpec.upto mixOwnSpec)) mixOwnUptoCard
end Rows
end Go.Proofs.YtldpolbgdhgomaaDoor
