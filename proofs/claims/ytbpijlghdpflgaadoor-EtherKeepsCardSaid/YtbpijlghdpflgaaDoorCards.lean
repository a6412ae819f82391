/-
  DERIVED. GIVEN WITH THE SEED: THE CARDS: each row of YtbpijlghdpflgaaDoorRows.lean that lists a variable, with what it lists TIED to the program's text (the seventh form; the later family's looks); each row that meets fmt, with fmt's text TOLD by the authors' own Lean function (tested against real Go, not proved from fmt's source: count such statements apart). THE CARD IS WHAT COUNTS. Prove the row's statement (the work); the ties are given (YtbpijlghdpflgaaDoorTie.lean); close each card by the builder's one call (the guide's Derived/Test/ToyasCard.lean, 'card_holds'). Laid BY PROGRAM, IN A SANDBOX (cutbox-door.mjs). By AI agents, Wed Nov 11 2026. No macro, syntax, notation, axiom, sorry.
-/
import Derived.Test.YtbpijlghdpflgaaDoorRows
import GoSem.ClaimSeven
namespace Go.Proofs.YtbpijlghdpflgaaDoor
namespace Rows

/-- THE TIED CARD OF 'headcountlaw12.EtherNames'. -/
def etherNamesCard : Claim7 := { stood := { row := etherNamesRow, standIns := [], harness := (true, "cfe2ddd48d841d8925801d4a35529eba4155e11cd49ccb72cf86c4b4a6d2ec46"), looks := false }, kinds := [], alts := [], laidByText := true, laidKinds := [.data], laidTests := true, laidLooks := .later }
def EtherNamesCardSaid : Prop := Claim7.holds Tryd.pinned (.plain (OpenSpec.ofChange etherNamesSpec)) etherNamesCard

/-- THE TIED CARD OF 'headcountlaw12.EtherSpoils'. -/
def etherSpoilsCard : Claim7 := { stood := { row := etherSpoilsRow, standIns := [], harness := (true, "cfe2ddd48d841d8925801d4a35529eba4155e11cd49ccb72cf86c4b4a6d2ec46"), looks := false }, kinds := [], alts := [], laidByText := true, laidKinds := [.data], laidTests := true, laidLooks := .later }
def EtherSpoilsCardSaid : Prop := Claim7.holds Tryd.pinned (.plain (OpenSpec.ofChange etherSpoilsSpec)) etherSpoilsCard

/-- THE TIED CARD OF 'headcountlaw12.EtherKeeps'. -/
def etherKeepsCard : Claim7 := { stood := { row := etherKeepsRow, standIns := [], harness := (true, "cfe2ddd48d841d8925801d4a35529eba4155e11cd49ccb72cf86c4b4a6d2ec46"), looks := false }, kinds := [], alts := [], laidByText := true, laidKinds := [.data], laidTests := true, laidLooks := .later }
def EtherKeepsCardSaid : Prop := Claim7.holds Tryd.pinned (.plain (OpenSpec.ofChange etherKeepsSpec)) etherKeepsCard

/-- THE TIED CARD OF 'headcountlaw12.EtherOther'. -/
def etherOtherCard : Claim7 := { stood := { row := etherOtherRow, standIns := [], harness := (true, "cfe2ddd48d841d8925801d4a35529eba4155e11cd49ccb72cf86c4b4a6d2ec46"), looks := false }, kinds := [], alts := [], laidByText := true, laidKinds := [.data], laidTests := true, laidLooks := .later }
def EtherOtherCardSaid : Prop := Claim7.holds Tryd.pinned (.plain (OpenSpec.ofChange etherOtherSpec)) etherOtherCard

/-- THE SECOND FORM's CARD OF 'headcountlaw12.EtherNames'. -/
def etherNamesUptoCard : Claim7 := { stood := { row := etherNamesUptoRow, standIns := [], harness := (true, "cfe2ddd48d841d8925801d4a35529eba4155e11cd49ccb72cf86c4b4a6d2ec46"), looks := false }, kinds := [], alts := [], laidByText := true, laidKinds := [.data], laidTests := true, laidLooks := .later }
def EtherNamesUptoCardSaid : Prop := Claim7.holds Tryd.pinned (.plain (OpenSpec.upto etherNamesSpec)) etherNamesUptoCard

/-- THE SECOND FORM's CARD OF 'headcountlaw12.EtherSpoils'. -/
def etherSpoilsUptoCard : Claim7 := { stood := { row := etherSpoilsUptoRow, standIns := [], harness := (true, "cfe2ddd48d841d8925801d4a35529eba4155e11cd49ccb72cf86c4b4a6d2ec46"), looks := false }, kinds := [], alts := [], laidByText := true, laidKinds := [.data], laidTests := true, laidLooks := .later }
def EtherSpoilsUptoCardSaid : Prop := Claim7.holds Tryd.pinned (.plain (OpenSpec.upto etherSpoilsSpec)) etherSpoilsUptoCard

/-- THE SECOND FORM's CARD OF 'headcountlaw12.EtherKeeps'. -/
def etherKeepsUptoCard : Claim7 := { stood := { row := etherKeepsUptoRow, standIns := [], harness := (true, "cfe2ddd48d841d8925801d4a35529eba4155e11cd49ccb72cf86c4b4a6d2ec46"), looks := false }, kinds := [], alts := [], laidByText := true, laidKinds := [.data], laidTests := true, laidLooks := .later }
def EtherKeepsUptoCardSaid : Prop := Claim7.holds Tryd.pinned (.plain (OpenSpec.upto etherKeepsSpec)) etherKeepsUptoCard

/-- THE SECOND FORM's CARD OF 'headcountlaw12.EtherOther'. -/
def etherOtherUptoCard : Claim7 := { stood := { row := etherOtherUptoRow, standIns := [], harness := (true, "cfe2ddd48d841d8925801d4a35529eba4155e11cd49ccb72cf86c4b4a6d2ec46"), looks := false }, kinds := [], alts := [], laidByText := true, laidKinds := [.data], laidTests := true, laidLooks := .later }
def EtherOtherUptoCardSaid : Prop := Claim7.holds Tryd.pinned (.plain (OpenSpec.upto etherOtherSpec)) etherOtherUptoCard
end Rows
end Go.Proofs.YtbpijlghdpflgaaDoor
