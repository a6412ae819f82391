/-
  No cell of these rows narrows 'for every input' (looked for: loops, veiled, ifaces, maps, wideKeys, modest, calm, conditions, laid).
  DERIVED. THE GIVEN ROWS OF THIS SEAT. 5 by the template 'for every input the law returns true; each argument reads behind the call as it read before'; 0 by the template 'total and deterministic' (their statements: YtdemhghflanncaaTotals.lean).
  GIVEN WITH THE SEED: the statements are not yours to turn. If you find one false, say at which input.
  Laid BY PROGRAM, IN A SANDBOX (cutbox-rows.mjs): the forced cells as the released guide's own fill.sh prints them over the translation 66af3eedd2c19a88… (all of the seat's roots in one cut). By AI agents, Wed Nov 11 2026. No macro, syntax, notation, axiom, sorry.
-/
import Derived.Test.YtdemhghflanncaaChecked
import GoSem.Claim
import GoSem.ClaimJoined
import GoSem.ClaimMapViews
import Derived.JoinedTies
import Derived.KernelRfl
namespace Go.Proofs.Ytdemhghflanncaa
/- THE CELL 'sum', in the pinned program and in every row, IS THE sha256 OF THE DUMP (.gsa) THAT YtdemhghflanncaaProg.lean LOADS. Nothing in Lean hashes anything: it is a label: what it is worth is what the hold of that sum in a sandbox is worth. -/
noncomputable def Try.pinned : Pinned := { name := "ytdemhghflanncaa", sum := "66af3eedd2c19a8823c67ec746644c231afc65c5587e7a15aa8b8bfba2572d0b", checked := Try.checked }
namespace Rows
def none {H : Type} : Left H := { results := [], args := [] }

/-- 'headcountlaw09.ChooseNames': WHATEVER THE INPUT: true; the input reads as it did. -/
def chooseNamesSpec : ChangeSpec := { name := "chooseNames", fn := fun _ => fun
  | [] => { results := [.lit (.bool true)], args := [] }
  | _ => none }
def chooseNamesRow : OpenClaim := { program := "ytdemhghflanncaa", sum := "66af3eedd2c19a8823c67ec746644c231afc65c5587e7a15aa8b8bfba2572d0b", func := "headcount/headcountlaw09.ChooseNames", spec := "chooseNames", inPlace := ["slices.overlaps[headcount/api.Desc]"], unfollowed := true, recurses := true, apart := false }
def ChooseNamesSaid : Prop := chooseNamesRow.holds Try.pinned (OpenSpec.ofChange chooseNamesSpec)

/-- ITS FALSE NEIGHBOUR: 'it returns false'. Refute it at one input. -/
def chooseNamesWrong : ChangeSpec := { name := "chooseNames", fn := fun _ => fun
  | [] => { results := [.lit (.bool false)], args := [] }
  | _ => none }
def ChooseNamesWrongFalsely : Prop := chooseNamesRow.holds Try.pinned (OpenSpec.ofChange chooseNamesWrong)

/-- 'headcountlaw09.ChooseTells': WHATEVER THE INPUT: true; the input reads as it did. -/
def chooseTellsSpec : ChangeSpec := { name := "chooseTells", fn := fun _ => fun
  | [d1, d2, d3, d4] => { results := [.lit (.bool true)], args := [d1, d2, d3, d4] }
  | _ => none }
def chooseTellsRow : OpenClaim := { program := "ytdemhghflanncaa", sum := "66af3eedd2c19a8823c67ec746644c231afc65c5587e7a15aa8b8bfba2572d0b", func := "headcount/headcountlaw09.ChooseTells", spec := "chooseTells", inPlace := ["slices.overlaps[headcount/api.Desc]"], unfollowed := true, recurses := true, apart := false }
def ChooseTellsSaid : Prop := chooseTellsRow.holds Try.pinned (OpenSpec.ofChange chooseTellsSpec)

/-- ITS FALSE NEIGHBOUR: 'it returns false'. Refute it at one input. -/
def chooseTellsWrong : ChangeSpec := { name := "chooseTells", fn := fun _ => fun
  | [d1, d2, d3, d4] => { results := [.lit (.bool false)], args := [d1, d2, d3, d4] }
  | _ => none }
def ChooseTellsWrongFalsely : Prop := chooseTellsRow.holds Try.pinned (OpenSpec.ofChange chooseTellsWrong)

/-- 'headcountlaw09.ChooseRound': WHATEVER THE INPUT: true; the input reads as it did. -/
def chooseRoundSpec : ChangeSpec := { name := "chooseRound", fn := fun _ => fun
  | [d1, d2] => { results := [.lit (.bool true)], args := [d1, d2] }
  | _ => none }
def chooseRoundRow : OpenClaim := { program := "ytdemhghflanncaa", sum := "66af3eedd2c19a8823c67ec746644c231afc65c5587e7a15aa8b8bfba2572d0b", func := "headcount/headcountlaw09.ChooseRound", spec := "chooseRound", inPlace := ["slices.overlaps[headcount/api.Desc]"], unfollowed := true, recurses := true, apart := false }
def ChooseRoundSaid : Prop := chooseRoundRow.holds Try.pinned (OpenSpec.ofChange chooseRoundSpec)

/-- ITS FALSE NEIGHBOUR: 'it returns false'. Refute it at one input. -/
def chooseRoundWrong : ChangeSpec := { name := "chooseRound", fn := fun _ => fun
  | [d1, d2] => { results := [.lit (.bool false)], args := [d1, d2] }
  | _ => none }
def ChooseRoundWrongFalsely : Prop := chooseRoundRow.holds Try.pinned (OpenSpec.ofChange chooseRoundWrong)

/-- 'headcountlaw09.ChooseOnce': WHATEVER THE INPUT: true; the input reads as it did. -/
def chooseOnceSpec : ChangeSpec := { name := "chooseOnce", fn := fun _ => fun
  | [d1, d2] => { results := [.lit (.bool true)], args := [d1, d2] }
  | _ => none }
def chooseOnceRow : OpenClaim := { program := "ytdemhghflanncaa", sum := "66af3eedd2c19a8823c67ec746644c231afc65c5587e7a15aa8b8bfba2572d0b", func := "headcount/headcountlaw09.ChooseOnce", spec := "chooseOnce", inPlace := ["slices.overlaps[headcount/api.Desc]"], unfollowed := true, recurses := true, apart := false }
def ChooseOnceSaid : Prop := chooseOnceRow.holds Try.pinned (OpenSpec.ofChange chooseOnceSpec)

/-- ITS FALSE NEIGHBOUR: 'it returns false'. Refute it at one input. -/
def chooseOnceWrong : ChangeSpec := { name := "chooseOnce", fn := fun _ => fun
  | [d1, d2] => { results := [.lit (.bool false)], args := [d1, d2] }
  | _ => none }
def ChooseOnceWrongFalsely : Prop := chooseOnceRow.holds Try.pinned (OpenSpec.ofChange chooseOnceWrong)

/-- 'headcountlaw09.ChooseBegins': WHATEVER THE INPUT: true; the input reads as it did. -/
def chooseBeginsSpec : ChangeSpec := { name := "chooseBegins", fn := fun _ => fun
  | [d1, d2, d3] => { results := [.lit (.bool true)], args := [d1, d2, d3] }
  | _ => none }
def chooseBeginsRow : OpenClaim := { program := "ytdemhghflanncaa", sum := "66af3eedd2c19a8823c67ec746644c231afc65c5587e7a15aa8b8bfba2572d0b", func := "headcount/headcountlaw09.ChooseBegins", spec := "chooseBegins", inPlace := ["slices.overlaps[headcount/api.Desc]"], unfollowed := true, recurses := true, apart := false }
def ChooseBeginsSaid : Prop := chooseBeginsRow.holds Try.pinned (OpenSpec.ofChange chooseBeginsSpec)

/-- ITS FALSE NEIGHBOUR: 'it returns false'. Refute it at one input. -/
def chooseBeginsWrong : ChangeSpec := { name := "chooseBegins", fn := fun _ => fun
  | [d1, d2, d3] => { results := [.lit (.bool false)], args := [d1, d2, d3] }
  | _ => none }
def ChooseBeginsWrongFalsely : Prop := chooseBeginsRow.holds Try.pinned (OpenSpec.ofChange chooseBeginsWrong)

/- THE SECOND FORM. 'bulk': how many values and letters a reading holds, each counted each time it is reached (what is shared counts as often as it is met; a slice's spare places count too). A statement '..UptoSaid' is the law's where the arguments, and the package variables that the reading takes, are together of bulk at most 1048576: NARROWER than '..Said'. Prove '..Said' where nothing that the law and all that it calls make is longer than what came in: it says more and counts as full. Else prove '..UptoSaid'. A law counts once. -/
mutual
def uptoBulk {H : Type} : DataW H → Nat
  | .lit (.string bytes) => bytes.length + 1
  | .lit _ => 1
  | .nil => 1
  | .ptr d => uptoBulk d + 1
  | .slice elems spare => uptoBulkAll elems + uptoBulkAll spare + 1
  | .agg parts => uptoBulkAll parts + 1
  | .iface _ d => uptoBulk d + 1
  | .map entries => uptoBulkEntries entries + 1
  | .held _ => 1
def uptoBulkAll {H : Type} : List (DataW H) → Nat
  | [] => 0
  | d :: r => uptoBulk d + uptoBulkAll r
def uptoBulkEntries {H : Type} : List (Lit × DataW H) → Nat
  | [] => 0
  | x :: r => uptoBulkEntry x + uptoBulkEntries r
def uptoBulkEntry {H : Type} : Lit × DataW H → Nat
  | (.string bytes, d) => bytes.length + uptoBulk d + 1
  | (_, d) => uptoBulk d + 1
 end
def uptoSmall : (H : Type) → List (DataW H) → Bool := fun _ ds => decide (uptoBulkAll ds ≤ 1048576)
def OpenSpec.upto (s : _root_.Go.ChangeSpec) : _root_.Go.OpenSpec := { _root_.Go.OpenSpec.ofChange s with cond := some uptoSmall }

/-- 'headcountlaw09.ChooseNames', WHERE WHAT IT READS IS OF BULK AT MOST 1048576: true; the input reads as it did. -/
def chooseNamesUptoRow : OpenClaim := { program := "ytdemhghflanncaa", sum := "66af3eedd2c19a8823c67ec746644c231afc65c5587e7a15aa8b8bfba2572d0b", func := "headcount/headcountlaw09.ChooseNames", spec := "chooseNames", inPlace := ["slices.overlaps[headcount/api.Desc]"], unfollowed := true, recurses := true, apart := false, narrowed := true }
def ChooseNamesUptoSaid : Prop := chooseNamesUptoRow.holds Try.pinned (OpenSpec.upto chooseNamesSpec)

/-- 'headcountlaw09.ChooseTells', WHERE WHAT IT READS IS OF BULK AT MOST 1048576: true; the input reads as it did. -/
def chooseTellsUptoRow : OpenClaim := { program := "ytdemhghflanncaa", sum := "66af3eedd2c19a8823c67ec746644c231afc65c5587e7a15aa8b8bfba2572d0b", func := "headcount/headcountlaw09.ChooseTells", spec := "chooseTells", inPlace := ["slices.overlaps[headcount/api.Desc]"], unfollowed := true, recurses := true, apart := false, narrowed := true }
def ChooseTellsUptoSaid : Prop := chooseTellsUptoRow.holds Try.pinned (OpenSpec.upto chooseTellsSpec)

/-- 'headcountlaw09.ChooseRound', WHERE WHAT IT READS IS OF BULK AT MOST 1048576: true; the input reads as it did. -/
def chooseRoundUptoRow : OpenClaim := { program := "ytdemhghflanncaa", sum := "66af3eedd2c19a8823c67ec746644c231afc65c5587e7a15aa8b8bfba2572d0b", func := "headcount/headcountlaw09.ChooseRound", spec := "chooseRound", inPlace := ["slices.overlaps[headcount/api.Desc]"], unfollowed := true, recurses := true, apart := false, narrowed := true }
def ChooseRoundUptoSaid : Prop := chooseRoundUptoRow.holds Try.pinned (OpenSpec.upto chooseRoundSpec)

/-- 'headcountlaw09.ChooseOnce', WHERE WHAT IT READS IS OF BULK AT MOST 1048576: true; the input reads as it did. -/
def chooseOnceUptoRow : OpenClaim := { program := "ytdemhghflanncaa", sum := "66af3eedd2c19a8823c67ec746644c231afc65c5587e7a15aa8b8bfba2572d0b", func := "headcount/headcountlaw09.ChooseOnce", spec := "chooseOnce", inPlace := ["slices.overlaps[headcount/api.Desc]"], unfollowed := true, recurses := true, apart := false, narrowed := true }
def ChooseOnceUptoSaid : Prop := chooseOnceUptoRow.holds Try.pinned (OpenSpec.upto chooseOnceSpec)

/-- 'headcountlaw09.ChooseBegins', WHERE WHAT IT READS IS OF BULK AT MOST 1048576: true; the input reads as it did. -/
def chooseBeginsUptoRow : OpenClaim := { program := "ytdemhghflanncaa", sum := "66af3eedd2c19a8823c67ec746644c231afc65c5587e7a15aa8b8bfba2572d0b", func := "headcount/headcountlaw09.ChooseBegins", spec := "chooseBegins", inPlace := ["slices.overlaps[headcount/api.Desc]"], unfollowed := true, recurses := true, apart := false, narrowed := true }
def ChooseBeginsUptoSaid : Prop := chooseBeginsUptoRow.holds Try.pinned (OpenSpec.upto chooseBeginsSpec)

end Rows
end Go.Proofs.Ytdemhghflanncaa
