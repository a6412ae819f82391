/-
  DERIVED. GIVEN WITH THE SEED: THE CARDS: each row of YtndehapggbmndaaDoorRows.lean that lists a variable, with what it lists TIED to the program's text (the seventh form; the later family's looks); each row that meets fmt, with fmt's text TOLD by the authors' own Lean function (tested against real Go, not proved from fmt's source: count such statements apart). THE CARD IS WHAT COUNTS. Prove the row's statement (the work); the ties are given (YtndehapggbmndaaDoorTie.lean); close each card by the builder's one call (the guide's Derived/Test/ToyasCard.lean, 'card_holds'). Laid BY PROGRAM, IN A SANDBOX (cutbox-door.mjs). By AI agents, Wed Nov 11 2026. No macro, syntax, notation, axiom, sorry.
-/
import Derived.Test.YtndehapggbmndaaDoorRows
import GoSem.ClaimSeven
namespace Go.Proofs.YtndehapggbmndaaDoor
namespace Rows

/-- THE TIED CARD OF 'headcountlaw03.RatioNames'. -/
def ratioNamesCard : Claim7 := { stood := { row := ratioNamesRow, standIns := [], harness := (true, "ac351532c465a397b42074f33e596b14ca2fc246d8c4a4d05f5ff61db187d910"), looks := false }, kinds := [], alts := [], laidByText := true, laidKinds := [.data, .data], laidTests := true, laidLooks := .later }
def RatioNamesCardSaid : Prop := Claim7.holds Tryd.pinned (.plain (OpenSpec.ofChange ratioNamesSpec)) ratioNamesCard

/-- THE TIED CARD OF 'headcountlaw03.RatioTells'. -/
def ratioTellsCard : Claim7 := { stood := { row := ratioTellsRow, standIns := [], harness := (true, "ac351532c465a397b42074f33e596b14ca2fc246d8c4a4d05f5ff61db187d910"), looks := false }, kinds := [], alts := [], laidByText := true, laidKinds := [.data, .data], laidTests := true, laidLooks := .later }
def RatioTellsCardSaid : Prop := Claim7.holds Tryd.pinned (.plain (OpenSpec.ofChange ratioTellsSpec)) ratioTellsCard

/-- THE TIED CARD OF 'headcountlaw03.RatioBand'. -/
def ratioBandCard : Claim7 := { stood := { row := ratioBandRow, standIns := [], harness := (true, "ac351532c465a397b42074f33e596b14ca2fc246d8c4a4d05f5ff61db187d910"), looks := false }, kinds := [], alts := [], laidByText := true, laidKinds := [.data, .data], laidTests := true, laidLooks := .later }
def RatioBandCardSaid : Prop := Claim7.holds Tryd.pinned (.plain (OpenSpec.ofChange ratioBandSpec)) ratioBandCard

/-- THE TIED CARD OF 'headcountlaw03.RatioWhole'. -/
def ratioWholeCard : Claim7 := { stood := { row := ratioWholeRow, standIns := [], harness := (true, "ac351532c465a397b42074f33e596b14ca2fc246d8c4a4d05f5ff61db187d910"), looks := false }, kinds := [], alts := [], laidByText := true, laidKinds := [.data, .data], laidTests := true, laidLooks := .later }
def RatioWholeCardSaid : Prop := Claim7.holds Tryd.pinned (.plain (OpenSpec.ofChange ratioWholeSpec)) ratioWholeCard

/-- THE TIED CARD OF 'headcountlaw03.RatioScales'. -/
def ratioScalesCard : Claim7 := { stood := { row := ratioScalesRow, standIns := [], harness := (true, "ac351532c465a397b42074f33e596b14ca2fc246d8c4a4d05f5ff61db187d910"), looks := false }, kinds := [], alts := [], laidByText := true, laidKinds := [.data, .data], laidTests := true, laidLooks := .later }
def RatioScalesCardSaid : Prop := Claim7.holds Tryd.pinned (.plain (OpenSpec.ofChange ratioScalesSpec)) ratioScalesCard

/-- THE SECOND FORM's CARD OF 'headcountlaw03.RatioNames'. -/
def ratioNamesUptoCard : Claim7 := { stood := { row := ratioNamesUptoRow, standIns := [], harness := (true, "ac351532c465a397b42074f33e596b14ca2fc246d8c4a4d05f5ff61db187d910"), looks := false }, kinds := [], alts := [], laidByText := true, laidKinds := [.data, .data], laidTests := true, laidLooks := .later }
def RatioNamesUptoCardSaid : Prop := Claim7.holds Tryd.pinned (.plain (OpenSpec.upto ratioNamesSpec)) ratioNamesUptoCard

/-- THE SECOND FORM's CARD OF 'headcountlaw03.RatioTells'. -/
def ratioTellsUptoCard : Claim7 := { stood := { row := ratioTellsUptoRow, standIns := [], harness := (true, "ac351532c465a397b42074f33e596b14ca2fc246d8c4a4d05f5ff61db187d910"), looks := false }, kinds := [], alts := [], laidByText := true, laidKinds := [.data, .data], laidTests := true, laidLooks := .later }
def RatioTellsUptoCardSaid : Prop := Claim7.holds Tryd.pinned (.plain (OpenSpec.upto ratioTellsSpec)) ratioTellsUptoCard

/-- THE SECOND FORM's CARD OF 'headcountlaw03.RatioBand'. -/
def ratioBandUptoCard : Claim7 := { stood := { row := ratioBandUptoRow, standIns := [], harness := (true, "ac351532c465a397b42074f33e596b14ca2fc246d8c4a4d05f5ff61db187d910"), looks := false }, kinds := [], alts := [], laidByText := true, laidKinds := [.data, .data], laidTests := true, laidLooks := .later }
def RatioBandUptoCardSaid : Prop := Claim7.holds Tryd.pinned (.plain (OpenSpec.upto ratioBandSpec)) ratioBandUptoCard

/-- THE SECOND FORM's CARD OF 'headcountlaw03.RatioWhole'. -/
def ratioWholeUptoCard : Claim7 := { stood := { row := ratioWholeUptoRow, standIns := [], harness := (true, "ac351532c465a397b42074f33e596b14ca2fc246d8c4a4d05f5ff61db187d910"), looks := false }, kinds := [], alts := [], laidByText := true, laidKinds := [.data, .data], laidTests := true, laidLooks := .later }
def RatioWholeUptoCardSaid : Prop := Claim7.holds Tryd.pinned (.plain (OpenSpec.upto ratioWholeSpec)) ratioWholeUptoCard

/-- THE SECOND FORM's CARD OF 'headcountlaw03.RatioScales'. -/
def ratioScalesUptoCard : Claim7 := { stood := { row := ratioScalesUptoRow, standIns := [], harness := (true, "ac351532c465a397b42074f33e596b14ca2fc246d8c4a4d05f5ff61db187d910"), looks := false }, kinds := [], alts := [], laidByText := true, laidKinds := [.data, .data], laidTests := true, laidLooks := .later }
def RatioScalesUptoCardSaid : Prop := Claim7.holds Tryd.pinned (.plain (OpenSpec.upto ratioScalesSpec)) ratioScalesUptoCard
end Rows
end Go.Proofs.YtndehapggbmndaaDoor
