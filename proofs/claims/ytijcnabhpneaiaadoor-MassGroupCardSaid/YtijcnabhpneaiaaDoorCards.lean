/-
  DERIVED. GIVEN WITH THE SEED: THE CARDS: each row of YtijcnabhpneaiaaDoorRows.lean that lists a variable, with what it lists TIED to the program's text (the seventh form; the later family's looks); each row that meets fmt, with fmt's text TOLD by the authors' own Lean function (tested against real Go, not proved from fmt's source: count such statements apart). THE CARD IS WHAT COUNTS. Prove the row's statement (the work); the ties are given (YtijcnabhpneaiaaDoorTie.lean); close each card by the builder's one call (the guide's Derived/Test/ToyasCard.lean, 'card_holds'). Laid BY PROGRAM, IN A SANDBOX (cutbox-door.mjs). By AI agents, Wed Nov 11 2026. No macro, syntax, notation, axiom, sorry.
-/
import Derived.Test.YtijcnabhpneaiaaDoorRows
import GoSem.ClaimSeven
namespace Go.Proofs.YtijcnabhpneaiaaDoor
namespace Rows

/-- THE TIED CARD OF 'headcountlaw03.RatioTells'. -/
def ratioTellsCard : Claim7 := { stood := { row := ratioTellsRow, standIns := [], harness := (true, "cb148c630cead3d8445d3bba38c26a1994e14b5cbff5b0dca746fb0711c5e646"), looks := false }, kinds := [], alts := [], laidByText := true, laidKinds := [.data, .data], laidTests := true, laidLooks := .later }
def RatioTellsCardSaid : Prop := Claim7.holds Tryd.pinned (.plain (OpenSpec.ofChange ratioTellsSpec)) ratioTellsCard

/-- THE TIED CARD OF 'headcountlaw06.MassNames'. -/
def massNamesCard : Claim7 := { stood := { row := massNamesRow, standIns := [], harness := (true, "cb148c630cead3d8445d3bba38c26a1994e14b5cbff5b0dca746fb0711c5e646"), looks := false }, kinds := [], alts := [], laidByText := true, laidKinds := [.data], laidTests := true, laidLooks := .later }
def MassNamesCardSaid : Prop := Claim7.holds Tryd.pinned (.plain (OpenSpec.ofChange massNamesSpec)) massNamesCard

/-- THE TIED CARD OF 'headcountlaw06.MassTells'. -/
def massTellsCard : Claim7 := { stood := { row := massTellsRow, standIns := [], harness := (true, "cb148c630cead3d8445d3bba38c26a1994e14b5cbff5b0dca746fb0711c5e646"), looks := false }, kinds := [], alts := [], laidByText := true, laidKinds := [.data], laidTests := true, laidLooks := .later }
def MassTellsCardSaid : Prop := Claim7.holds Tryd.pinned (.plain (OpenSpec.ofChange massTellsSpec)) massTellsCard

/-- THE TIED CARD OF 'headcountlaw06.MassSums'. -/
def massSumsCard : Claim7 := { stood := { row := massSumsRow, standIns := [], harness := (true, "cb148c630cead3d8445d3bba38c26a1994e14b5cbff5b0dca746fb0711c5e646"), looks := false }, kinds := [], alts := [], laidByText := true, laidKinds := [.data], laidTests := true, laidLooks := .later }
def MassSumsCardSaid : Prop := Claim7.holds Tryd.pinned (.plain (OpenSpec.ofChange massSumsSpec)) massSumsCard

/-- THE TIED CARD OF 'headcountlaw06.MassWhole'. -/
def massWholeCard : Claim7 := { stood := { row := massWholeRow, standIns := [], harness := (true, "cb148c630cead3d8445d3bba38c26a1994e14b5cbff5b0dca746fb0711c5e646"), looks := false }, kinds := [], alts := [], laidByText := true, laidKinds := [.data], laidTests := true, laidLooks := .later }
def MassWholeCardSaid : Prop := Claim7.holds Tryd.pinned (.plain (OpenSpec.ofChange massWholeSpec)) massWholeCard

/-- THE TIED CARD OF 'headcountlaw06.MassGroup'. -/
def massGroupCard : Claim7 := { stood := { row := massGroupRow, standIns := [], harness := (true, "cb148c630cead3d8445d3bba38c26a1994e14b5cbff5b0dca746fb0711c5e646"), looks := false }, kinds := [], alts := [], laidByText := true, laidKinds := [.data], laidTests := true, laidLooks := .later }
def MassGroupCardSaid : Prop := Claim7.holds Tryd.pinned (.plain (OpenSpec.ofChange massGroupSpec)) massGroupCard

/-- THE SECOND FORM's CARD OF 'headcountlaw03.RatioTells'. -/
def ratioTellsUptoCard : Claim7 := { stood := { row := ratioTellsUptoRow, standIns := [], harness := (true, "cb148c630cead3d8445d3bba38c26a1994e14b5cbff5b0dca746fb0711c5e646"), looks := false }, kinds := [], alts := [], laidByText := true, laidKinds := [.data, .data], laidTests := true, laidLooks := .later }
def RatioTellsUptoCardSaid : Prop := Claim7.holds Tryd.pinned (.plain (OpenSpec.upto ratioTellsSpec)) ratioTellsUptoCard

/-- THE SECOND FORM's CARD OF 'headcountlaw06.MassNames'. -/
def massNamesUptoCard : Claim7 := { stood := { row := massNamesUptoRow, standIns := [], harness := (true, "cb148c630cead3d8445d3bba38c26a1994e14b5cbff5b0dca746fb0711c5e646"), looks := false }, kinds := [], alts := [], laidByText := true, laidKinds := [.data], laidTests := true, laidLooks := .later }
def MassNamesUptoCardSaid : Prop := Claim7.holds Tryd.pinned (.plain (OpenSpec.upto massNamesSpec)) massNamesUptoCard

/-- THE SECOND FORM's CARD OF 'headcountlaw06.MassTells'. -/
def massTellsUptoCard : Claim7 := { stood := { row := massTellsUptoRow, standIns := [], harness := (true, "cb148c630cead3d8445d3bba38c26a1994e14b5cbff5b0dca746fb0711c5e646"), looks := false }, kinds := [], alts := [], laidByText := true, laidKinds := [.data], laidTests := true, laidLooks := .later }
def MassTellsUptoCardSaid : Prop := Claim7.holds Tryd.pinned (.plain (OpenSpec.upto massTellsSpec)) massTellsUptoCard

/-- THE SECOND FORM's CARD OF 'headcountlaw06.MassSums'. -/
def massSumsUptoCard : Claim7 := { stood := { row := massSumsUptoRow, standIns := [], harness := (true, "cb148c630cead3d8445d3bba38c26a1994e14b5cbff5b0dca746fb0711c5e646"), looks := false }, kinds := [], alts := [], laidByText := true, laidKinds := [.data], laidTests := true, laidLooks := .later }
def MassSumsUptoCardSaid : Prop := Claim7.holds Tryd.pinned (.plain (OpenSpec.upto massSumsSpec)) massSumsUptoCard

/-- THE SECOND FORM's CARD OF 'headcountlaw06.MassWhole'. -/
def massWholeUptoCard : Claim7 := { stood := { row := massWholeUptoRow, standIns := [], harness := (true, "cb148c630cead3d8445d3bba38c26a1994e14b5cbff5b0dca746fb0711c5e646"), looks := false }, kinds := [], alts := [], laidByText := true, laidKinds := [.data], laidTests := true, laidLooks := .later }
def MassWholeUptoCardSaid : Prop := Claim7.holds Tryd.pinned (.plain (OpenSpec.upto massWholeSpec)) massWholeUptoCard

/-- THE SECOND FORM's CARD OF 'headcountlaw06.MassGroup'. -/
def massGroupUptoCard : Claim7 := { stood := { row := massGroupUptoRow, standIns := [], harness := (true, "cb148c630cead3d8445d3bba38c26a1994e14b5cbff5b0dca746fb0711c5e646"), looks := false }, kinds := [], alts := [], laidByText := true, laidKinds := [.data], laidTests := true, laidLooks := .later }
def MassGroupUptoCardSaid : Prop := Claim7.holds Tryd.pinned (.plain (OpenSpec.upto massGroupSpec)) massGroupUptoCard
end Rows
end Go.Proofs.YtijcnabhpneaiaaDoor
