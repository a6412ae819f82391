/-
  DERIVED. GIVEN WITH THE SEED: THE CARDS: each row of YtflegkefgbifcaaDoorRows.lean that lists a variable, with what it lists TIED to the program's text (the seventh form; the later family's looks); each row that meets fmt, with fmt's text TOLD by the authors' own Lean function (tested against real Go, not proved from fmt's source: count such statements apart). THE CARD IS WHAT COUNTS. Prove the row's statement (the work); the ties are given (YtflegkefgbifcaaDoorTie.lean); close each card by the builder's one call (the guide's Derived/Test/ToyasCard.lean, 'card_holds'). Laid BY PROGRAM, IN A SANDBOX (cutbox-door.mjs). By AI agents, Wed Nov 11 2026. No macro, syntax, notation, axiom, sorry.
-/
import Derived.Test.YtflegkefgbifcaaDoorRows
import GoSem.ClaimSeven
namespace Go.Proofs.YtflegkefgbifcaaDoor
namespace Rows

/-- THE TIED CARD OF 'headcountlaw02.DyadNames'. -/
def dyadNamesCard : Claim7 := { stood := { row := dyadNamesRow, standIns := [], harness := (true, "33ad7fe7ce704a856e9c6f0e2ec06c65549b75ca0fa2e2c0fbd7d87031a0cedb"), looks := false }, kinds := [], alts := [], laidByText := true, laidKinds := [.data], laidTests := true, laidLooks := .later }
def DyadNamesCardSaid : Prop := Claim7.holds Tryd.pinned (.plain (OpenSpec.ofChange dyadNamesSpec)) dyadNamesCard

/-- THE TIED CARD OF 'headcountlaw02.DyadSums'. -/
def dyadSumsCard : Claim7 := { stood := { row := dyadSumsRow, standIns := [], harness := (true, "33ad7fe7ce704a856e9c6f0e2ec06c65549b75ca0fa2e2c0fbd7d87031a0cedb"), looks := false }, kinds := [], alts := [], laidByText := true, laidKinds := [.data], laidTests := true, laidLooks := .later }
def DyadSumsCardSaid : Prop := Claim7.holds Tryd.pinned (.plain (OpenSpec.ofChange dyadSumsSpec)) dyadSumsCard

/-- THE TIED CARD OF 'headcountlaw02.DyadOne'. -/
def dyadOneCard : Claim7 := { stood := { row := dyadOneRow, standIns := [], harness := (true, "33ad7fe7ce704a856e9c6f0e2ec06c65549b75ca0fa2e2c0fbd7d87031a0cedb"), looks := false }, kinds := [], alts := [], laidByText := true, laidKinds := [.data], laidTests := true, laidLooks := .later }
def DyadOneCardSaid : Prop := Claim7.holds Tryd.pinned (.plain (OpenSpec.ofChange dyadOneSpec)) dyadOneCard

/-- THE TIED CARD OF 'headcountlaw02.DyadHalves'. -/
def dyadHalvesCard : Claim7 := { stood := { row := dyadHalvesRow, standIns := [], harness := (true, "33ad7fe7ce704a856e9c6f0e2ec06c65549b75ca0fa2e2c0fbd7d87031a0cedb"), looks := false }, kinds := [], alts := [], laidByText := true, laidKinds := [.data], laidTests := true, laidLooks := .later }
def DyadHalvesCardSaid : Prop := Claim7.holds Tryd.pinned (.plain (OpenSpec.ofChange dyadHalvesSpec)) dyadHalvesCard

/-- THE TIED CARD OF 'headcountlaw02.DyadGroup'. -/
def dyadGroupCard : Claim7 := { stood := { row := dyadGroupRow, standIns := [], harness := (true, "33ad7fe7ce704a856e9c6f0e2ec06c65549b75ca0fa2e2c0fbd7d87031a0cedb"), looks := false }, kinds := [], alts := [], laidByText := true, laidKinds := [.data], laidTests := true, laidLooks := .later }
def DyadGroupCardSaid : Prop := Claim7.holds Tryd.pinned (.plain (OpenSpec.ofChange dyadGroupSpec)) dyadGroupCard

/-- THE SECOND FORM's CARD OF 'headcountlaw02.DyadNames'. -/
def dyadNamesUptoCard : Claim7 := { stood := { row := dyadNamesUptoRow, standIns := [], harness := (true, "33ad7fe7ce704a856e9c6f0e2ec06c65549b75ca0fa2e2c0fbd7d87031a0cedb"), looks := false }, kinds := [], alts := [], laidByText := true, laidKinds := [.data], laidTests := true, laidLooks := .later }
def DyadNamesUptoCardSaid : Prop := Claim7.holds Tryd.pinned (.plain (OpenSpec.upto dyadNamesSpec)) dyadNamesUptoCard

/-- THE SECOND FORM's CARD OF 'headcountlaw02.DyadSums'. -/
def dyadSumsUptoCard : Claim7 := { stood := { row := dyadSumsUptoRow, standIns := [], harness := (true, "33ad7fe7ce704a856e9c6f0e2ec06c65549b75ca0fa2e2c0fbd7d87031a0cedb"), looks := false }, kinds := [], alts := [], laidByText := true, laidKinds := [.data], laidTests := true, laidLooks := .later }
def DyadSumsUptoCardSaid : Prop := Claim7.holds Tryd.pinned (.plain (OpenSpec.upto dyadSumsSpec)) dyadSumsUptoCard

/-- THE SECOND FORM's CARD OF 'headcountlaw02.DyadOne'. -/
def dyadOneUptoCard : Claim7 := { stood := { row := dyadOneUptoRow, standIns := [], harness := (true, "33ad7fe7ce704a856e9c6f0e2ec06c65549b75ca0fa2e2c0fbd7d87031a0cedb"), looks := false }, kinds := [], alts := [], laidByText := true, laidKinds := [.data], laidTests := true, laidLooks := .later }
def DyadOneUptoCardSaid : Prop := Claim7.holds Tryd.pinned (.plain (OpenSpec.upto dyadOneSpec)) dyadOneUptoCard

/-- THE SECOND FORM's CARD OF 'headcountlaw02.DyadHalves'. -/
def dyadHalvesUptoCard : Claim7 := { stood := { row := dyadHalvesUptoRow, standIns := [], harness := (true, "33ad7fe7ce704a856e9c6f0e2ec06c65549b75ca0fa2e2c0fbd7d87031a0cedb"), looks := false }, kinds := [], alts := [], laidByText := true, laidKinds := [.data], laidTests := true, laidLooks := .later }
def DyadHalvesUptoCardSaid : Prop := Claim7.holds Tryd.pinned (.plain (OpenSpec.upto dyadHalvesSpec)) dyadHalvesUptoCard

/-- THE SECOND FORM's CARD OF 'headcountlaw02.DyadGroup'. -/
def dyadGroupUptoCard : Claim7 := { stood := { row := dyadGroupUptoRow, standIns := [], harness := (true, "33ad7fe7ce704a856e9c6f0e2ec06c65549b75ca0fa2e2c0fbd7d87031a0cedb"), looks := false }, kinds := [], alts := [], laidByText := true, laidKinds := [.data], laidTests := true, laidLooks := .later }
def DyadGroupUptoCardSaid : Prop := Claim7.holds Tryd.pinned (.plain (OpenSpec.upto dyadGroupSpec)) dyadGroupUptoCard
end Rows
end Go.Proofs.YtflegkefgbifcaaDoor
