/-
  DERIVED. GIVEN WITH THE SEED: THE CARDS: each row of YtelalanhalbicaaDoorRows.lean that lists a variable, with what it lists TIED to the program's text (the seventh form; the later family's looks); each row that meets fmt, with fmt's text TOLD by the authors' own Lean function (tested against real Go, not proved from fmt's source: count such statements apart). THE CARD IS WHAT COUNTS. Prove the row's statement (the work); the ties are given (YtelalanhalbicaaDoorTie.lean); close each card by the builder's one call (the guide's Derived/Test/ToyasCard.lean, 'card_holds'). Laid BY PROGRAM, IN A SANDBOX (cutbox-door.mjs). By AI agents, Wed Nov 11 2026. No macro, syntax, notation, axiom, sorry.
-/
import Derived.Test.YtelalanhalbicaaDoorRows
import GoSem.ClaimSeven
namespace Go.Proofs.YtelalanhalbicaaDoor
namespace Rows

/-- THE TIED CARD OF 'headcountlaw06.MassTells'. -/
def massTellsCard : Claim7 := { stood := { row := massTellsRow, standIns := [], harness := (true, "81d99f91d4e18b186b47c1f1e69b206b86b13ba5801e07a1d014601126aedcfe"), looks := false }, kinds := [], alts := [], laidByText := true, laidKinds := [.data], laidTests := true, laidLooks := .later }
def MassTellsCardSaid : Prop := Claim7.holds Tryd.pinned (.plain (OpenSpec.ofChange massTellsSpec)) massTellsCard

/-- THE TIED CARD OF 'headcountlaw06.MassSums'. -/
def massSumsCard : Claim7 := { stood := { row := massSumsRow, standIns := [], harness := (true, "81d99f91d4e18b186b47c1f1e69b206b86b13ba5801e07a1d014601126aedcfe"), looks := false }, kinds := [], alts := [], laidByText := true, laidKinds := [.data], laidTests := true, laidLooks := .later }
def MassSumsCardSaid : Prop := Claim7.holds Tryd.pinned (.plain (OpenSpec.ofChange massSumsSpec)) massSumsCard

/-- THE SECOND FORM's CARD OF 'headcountlaw06.MassTells'. -/
def massTellsUptoCard : Claim7 := { stood := { row := massTellsUptoRow, standIns := [], harness := (true, "81d99f91d4e18b186b47c1f1e69b206b86b13ba5801e07a1d014601126aedcfe"), looks := false }, kinds := [], alts := [], laidByText := true, laidKinds := [.data], laidTests := true, laidLooks := .later }
def MassTellsUptoCardSaid : Prop := Claim7.holds Tryd.pinned (.plain (OpenSpec.upto massTellsSpec)) massTellsUptoCard

/-- THE SECOND FORM's CARD OF 'headcountlaw06.MassSums'. -/
def massSumsUptoCard : Claim7 := { stood := { row := massSumsUptoRow, standIns := [], harness := (true, "81d99f91d4e18b186b47c1f1e69b206b86b13ba5801e07a1d014601126aedcfe"), looks := false }, kinds := [], alts := [], laidByText := true, laidKinds := [.data], laidTests := true, laidLooks := .later }
def MassSumsUptoCardSaid : Prop := Claim7.holds Tryd.pinned (.plain (OpenSpec.upto massSumsSpec)) massSumsUptoCard
end Rows
end Go.Proofs.YtelalanhalbicaaDoor
