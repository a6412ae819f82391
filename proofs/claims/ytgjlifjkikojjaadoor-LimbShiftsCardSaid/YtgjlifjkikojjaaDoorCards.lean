/-
  DERIVED. GIVEN WITH THE SEED: THE CARDS: each row of YtgjlifjkikojjaaDoorRows.lean that lists a variable, with what it lists TIED to the program's text (the seventh form; the later family's looks); each row that meets fmt, with fmt's text TOLD by the authors' own Lean function (tested against real Go, not proved from fmt's source: count such statements apart). THE CARD IS WHAT COUNTS. Prove the row's statement (the work); the ties are given (YtgjlifjkikojjaaDoorTie.lean); close each card by the builder's one call (the guide's Derived/Test/ToyasCard.lean, 'card_holds'). Laid BY PROGRAM, IN A SANDBOX (cutbox-door.mjs). By AI agents, Wed Nov 11 2026. No macro, syntax, notation, axiom, sorry.
-/
import Derived.Test.YtgjlifjkikojjaaDoorRows
import GoSem.ClaimSeven
namespace Go.Proofs.YtgjlifjkikojjaaDoor
namespace Rows

/-- THE TIED CARD OF 'headcountlaw01.LimbNames'. -/
def limbNamesCard : Claim7 := { stood := { row := limbNamesRow, standIns := [], harness := (true, "de5259a4e040b9d27b32c8b0ef230de6810403ec46117f20bd7eda2aee22e66f"), looks := false }, kinds := [], alts := [], laidByText := true, laidKinds := [.data], laidTests := true, laidLooks := .later }
def LimbNamesCardSaid : Prop := Claim7.holds Tryd.pinned (.plain (OpenSpec.ofChange limbNamesSpec)) limbNamesCard

/-- THE TIED CARD OF 'headcountlaw01.LimbShifts'. -/
def limbShiftsCard : Claim7 := { stood := { row := limbShiftsRow, standIns := [], harness := (true, "de5259a4e040b9d27b32c8b0ef230de6810403ec46117f20bd7eda2aee22e66f"), looks := false }, kinds := [], alts := [], laidByText := true, laidKinds := [.data], laidTests := true, laidLooks := .later }
def LimbShiftsCardSaid : Prop := Claim7.holds Tryd.pinned (.plain (OpenSpec.ofChange limbShiftsSpec)) limbShiftsCard

/-- THE TIED CARD OF 'headcountlaw01.LimbSums'. -/
def limbSumsCard : Claim7 := { stood := { row := limbSumsRow, standIns := [], harness := (true, "de5259a4e040b9d27b32c8b0ef230de6810403ec46117f20bd7eda2aee22e66f"), looks := false }, kinds := [], alts := [], laidByText := true, laidKinds := [.data], laidTests := true, laidLooks := .later }
def LimbSumsCardSaid : Prop := Claim7.holds Tryd.pinned (.plain (OpenSpec.ofChange limbSumsSpec)) limbSumsCard

/-- THE TIED CARD OF 'headcountlaw01.LimbParts'. -/
def limbPartsCard : Claim7 := { stood := { row := limbPartsRow, standIns := [], harness := (true, "de5259a4e040b9d27b32c8b0ef230de6810403ec46117f20bd7eda2aee22e66f"), looks := false }, kinds := [], alts := [], laidByText := true, laidKinds := [.data], laidTests := true, laidLooks := .later }
def LimbPartsCardSaid : Prop := Claim7.holds Tryd.pinned (.plain (OpenSpec.ofChange limbPartsSpec)) limbPartsCard

/-- THE TIED CARD OF 'headcountlaw01.LimbTwos'. -/
def limbTwosCard : Claim7 := { stood := { row := limbTwosRow, standIns := [], harness := (true, "de5259a4e040b9d27b32c8b0ef230de6810403ec46117f20bd7eda2aee22e66f"), looks := false }, kinds := [], alts := [], laidByText := true, laidKinds := [.data], laidTests := true, laidLooks := .later }
def LimbTwosCardSaid : Prop := Claim7.holds Tryd.pinned (.plain (OpenSpec.ofChange limbTwosSpec)) limbTwosCard

/-- THE SECOND FORM's CARD OF 'headcountlaw01.LimbNames'. -/
def limbNamesUptoCard : Claim7 := { stood := { row := limbNamesUptoRow, standIns := [], harness := (true, "de5259a4e040b9d27b32c8b0ef230de6810403ec46117f20bd7eda2aee22e66f"), looks := false }, kinds := [], alts := [], laidByText := true, laidKinds := [.data], laidTests := true, laidLooks := .later }
def LimbNamesUptoCardSaid : Prop := Claim7.holds Tryd.pinned (.plain (OpenSpec.upto limbNamesSpec)) limbNamesUptoCard

/-- THE SECOND FORM's CARD OF 'headcountlaw01.LimbShifts'. -/
def limbShiftsUptoCard : Claim7 := { stood := { row := limbShiftsUptoRow, standIns := [], harness := (true, "de5259a4e040b9d27b32c8b0ef230de6810403ec46117f20bd7eda2aee22e66f"), looks := false }, kinds := [], alts := [], laidByText := true, laidKinds := [.data], laidTests := true, laidLooks := .later }
def LimbShiftsUptoCardSaid : Prop := Claim7.holds Tryd.pinned (.plain (OpenSpec.upto limbShiftsSpec)) limbShiftsUptoCard

/-- THE SECOND FORM's CARD OF 'headcountlaw01.LimbSums'. -/
def limbSumsUptoCard : Claim7 := { stood := { row := limbSumsUptoRow, standIns := [], harness := (true, "de5259a4e040b9d27b32c8b0ef230de6810403ec46117f20bd7eda2aee22e66f"), looks := false }, kinds := [], alts := [], laidByText := true, laidKinds := [.data], laidTests := true, laidLooks := .later }
def LimbSumsUptoCardSaid : Prop := Claim7.holds Tryd.pinned (.plain (OpenSpec.upto limbSumsSpec)) limbSumsUptoCard

/-- THE SECOND FORM's CARD OF 'headcountlaw01.LimbParts'. -/
def limbPartsUptoCard : Claim7 := { stood := { row := limbPartsUptoRow, standIns := [], harness := (true, "de5259a4e040b9d27b32c8b0ef230de6810403ec46117f20bd7eda2aee22e66f"), looks := false }, kinds := [], alts := [], laidByText := true, laidKinds := [.data], laidTests := true, laidLooks := .later }
def LimbPartsUptoCardSaid : Prop := Claim7.holds Tryd.pinned (.plain (OpenSpec.upto limbPartsSpec)) limbPartsUptoCard

/-- THE SECOND FORM's CARD OF 'headcountlaw01.LimbTwos'. -/
def limbTwosUptoCard : Claim7 := { stood := { row := limbTwosUptoRow, standIns := [], harness := (true, "de5259a4e040b9d27b32c8b0ef230de6810403ec46117f20bd7eda2aee22e66f"), looks := false }, kinds := [], alts := [], laidByText := true, laidKinds := [.data], laidTests := true, laidLooks := .later }
def LimbTwosUptoCardSaid : Prop := Claim7.holds Tryd.pinned (.plain (OpenSpec.upto limbTwosSpec)) limbTwosUptoCard
end Rows
end Go.Proofs.YtgjlifjkikojjaaDoor
