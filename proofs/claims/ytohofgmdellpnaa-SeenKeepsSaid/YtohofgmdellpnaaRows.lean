/-
  No cell of these rows narrows 'for every input' (looked for: loops, veiled, ifaces, maps, wideKeys, modest, calm, conditions, laid).
  DERIVED. THE GIVEN ROWS OF THIS SEAT. 5 by the template 'for every input the law returns true; each argument reads behind the call as it read before'; 0 by the template 'total and deterministic' (their statements: YtohofgmdellpnaaTotals.lean).
  GIVEN WITH THE SEED: the statements are not yours to turn. If you find one false, say at which input.
  Laid BY PROGRAM, IN A SANDBOX (cutbox-rows.mjs): the forced cells as the released guide's own fill.sh prints them over the translation 22a4aa77a807aa14… (all of the seat's roots in one cut). By AI agents, Wed Nov 11 2026. No macro, syntax, notation, axiom, sorry.
-/
import Derived.Test.YtohofgmdellpnaaChecked
import GoSem.Claim
import GoSem.ClaimJoined
import GoSem.ClaimMapViews
import Derived.JoinedTies
import Derived.KernelRfl
namespace Go.Proofs.Ytohofgmdellpnaa
/- THE CELL 'sum', in the pinned program and in every row, IS THE sha256 OF THE DUMP (.gsa) THAT YtohofgmdellpnaaProg.lean LOADS. Nothing in Lean hashes anything: it is a label: what it is worth is what the hold of that sum in a sandbox is worth. -/
noncomputable def Try.pinned : Pinned := { name := "ytohofgmdellpnaa", sum := "22a4aa77a807aa14e4bb175b2b663445de7a6e2097924b8f9f08c22c80576c77", checked := Try.checked }
namespace Rows
def none {H : Type} : Left H := { results := [], args := [] }

/-- 'headcountlaw11.SeenNames': WHATEVER THE INPUT: true; the input reads as it did. -/
def seenNamesSpec : ChangeSpec := { name := "seenNames", fn := fun _ => fun
  | [] => { results := [.lit (.bool true)], args := [] }
  | _ => none }
def seenNamesRow : OpenClaim := { program := "ytohofgmdellpnaa", sum := "22a4aa77a807aa14e4bb175b2b663445de7a6e2097924b8f9f08c22c80576c77", func := "headcount/headcountlaw11.SeenNames", spec := "seenNames", unfollowed := true, recurses := true, apart := false }
def SeenNamesSaid : Prop := seenNamesRow.holds Try.pinned (OpenSpec.ofChange seenNamesSpec)

/-- ITS FALSE NEIGHBOUR: 'it returns false'. Refute it at one input. -/
def seenNamesWrong : ChangeSpec := { name := "seenNames", fn := fun _ => fun
  | [] => { results := [.lit (.bool false)], args := [] }
  | _ => none }
def SeenNamesWrongFalsely : Prop := seenNamesRow.holds Try.pinned (OpenSpec.ofChange seenNamesWrong)

/-- 'headcountlaw11.SeenTells': WHATEVER THE INPUT: true; the input reads as it did. -/
def seenTellsSpec : ChangeSpec := { name := "seenTells", fn := fun _ => fun
  | [d1, d2] => { results := [.lit (.bool true)], args := [d1, d2] }
  | _ => none }
def seenTellsRow : OpenClaim := { program := "ytohofgmdellpnaa", sum := "22a4aa77a807aa14e4bb175b2b663445de7a6e2097924b8f9f08c22c80576c77", func := "headcount/headcountlaw11.SeenTells", spec := "seenTells", unfollowed := true, recurses := true, apart := false }
def SeenTellsSaid : Prop := seenTellsRow.holds Try.pinned (OpenSpec.ofChange seenTellsSpec)

/-- ITS FALSE NEIGHBOUR: 'it returns false'. Refute it at one input. -/
def seenTellsWrong : ChangeSpec := { name := "seenTells", fn := fun _ => fun
  | [d1, d2] => { results := [.lit (.bool false)], args := [d1, d2] }
  | _ => none }
def SeenTellsWrongFalsely : Prop := seenTellsRow.holds Try.pinned (OpenSpec.ofChange seenTellsWrong)

/-- 'headcountlaw11.SeenKeeps': WHATEVER THE INPUT: true; the input reads as it did. -/
def seenKeepsSpec : ChangeSpec := { name := "seenKeeps", fn := fun _ => fun
  | [d1, d2, d3] => { results := [.lit (.bool true)], args := [d1, d2, d3] }
  | _ => none }
def seenKeepsRow : OpenClaim := { program := "ytohofgmdellpnaa", sum := "22a4aa77a807aa14e4bb175b2b663445de7a6e2097924b8f9f08c22c80576c77", func := "headcount/headcountlaw11.SeenKeeps", spec := "seenKeeps", unfollowed := true, recurses := true, apart := false }
def SeenKeepsSaid : Prop := seenKeepsRow.holds Try.pinned (OpenSpec.ofChange seenKeepsSpec)

/-- ITS FALSE NEIGHBOUR: 'it returns false'. Refute it at one input. -/
def seenKeepsWrong : ChangeSpec := { name := "seenKeeps", fn := fun _ => fun
  | [d1, d2, d3] => { results := [.lit (.bool false)], args := [d1, d2, d3] }
  | _ => none }
def SeenKeepsWrongFalsely : Prop := seenKeepsRow.holds Try.pinned (OpenSpec.ofChange seenKeepsWrong)

/-- 'headcountlaw11.SeenOrder': WHATEVER THE INPUT: true; the input reads as it did. -/
def seenOrderSpec : ChangeSpec := { name := "seenOrder", fn := fun _ => fun
  | [d] => { results := [.lit (.bool true)], args := [d] }
  | _ => none }
def seenOrderRow : OpenClaim := { program := "ytohofgmdellpnaa", sum := "22a4aa77a807aa14e4bb175b2b663445de7a6e2097924b8f9f08c22c80576c77", func := "headcount/headcountlaw11.SeenOrder", spec := "seenOrder", unfollowed := true, recurses := true, apart := false }
def SeenOrderSaid : Prop := seenOrderRow.holds Try.pinned (OpenSpec.ofChange seenOrderSpec)

/-- ITS FALSE NEIGHBOUR: 'it returns false'. Refute it at one input. -/
def seenOrderWrong : ChangeSpec := { name := "seenOrder", fn := fun _ => fun
  | [d] => { results := [.lit (.bool false)], args := [d] }
  | _ => none }
def SeenOrderWrongFalsely : Prop := seenOrderRow.holds Try.pinned (OpenSpec.ofChange seenOrderWrong)

/-- 'headcountlaw11.SeenFirst': WHATEVER THE INPUT: true; the input reads as it did. -/
def seenFirstSpec : ChangeSpec := { name := "seenFirst", fn := fun _ => fun
  | [d] => { results := [.lit (.bool true)], args := [d] }
  | _ => none }
def seenFirstRow : OpenClaim := { program := "ytohofgmdellpnaa", sum := "22a4aa77a807aa14e4bb175b2b663445de7a6e2097924b8f9f08c22c80576c77", func := "headcount/headcountlaw11.SeenFirst", spec := "seenFirst", unfollowed := true, recurses := true, apart := false }
def SeenFirstSaid : Prop := seenFirstRow.holds Try.pinned (OpenSpec.ofChange seenFirstSpec)

/-- ITS FALSE NEIGHBOUR: 'it returns false'. Refute it at one input. -/
def seenFirstWrong : ChangeSpec := { name := "seenFirst", fn := fun _ => fun
  | [d] => { results := [.lit (.bool false)], args := [d] }
  | _ => none }
def SeenFirstWrongFalsely : Prop := seenFirstRow.holds Try.pinned (OpenSpec.ofChange seenFirstWrong)

/- THE SECOND FORM. 'bulk': how many values and letters a reading holds, each counted each time it is reached (what is shared counts as often as it is met; a slice's spare places count too). A statement '..UptoSaid' is the law's where the arguments, and the package variables that the reading takes, are together of bulk at most 1048576: NARROWER than '..Said'. Prove '..Said' where nothing that the law and all that it calls make is longer than what came in: it says more and counts as full. Else prove '..UptoSaid'. A law counts once. -/
mutual
def uptoBulk {H : Type} : DataW H → Nat
  | .lit (.string bytes) => bytes.length + 1
  | .lit _ => 1
  | .nil => 1
  | .ptr d => uptoBulk d + 1
  | .slice elems spare => uptoBulkAll elems + uptoBulkAll spare + 1
  | .agg parts => uptoBulkAll parts + 1
  | .iface _ d => uptoBulk d + 1
  | .map entries => uptoBulkEntries entries + 1
  | .held _ => 1
def uptoBulkAll {H : Type} : List (DataW H) → Nat
  | [] => 0
  | d :: r => uptoBulk d + uptoBulkAll r
def uptoBulkEntries {H : Type} : List (Lit × DataW H) → Nat
  | [] => 0
  | x :: r => uptoBulkEntry x + uptoBulkEntries r
def uptoBulkEntry {H : Type} : Lit × DataW H → Nat
  | (.string bytes, d) => bytes.length + uptoBulk d + 1
  | (_, d) => uptoBulk d + 1
 end
def uptoSmall : (H : Type) → List (DataW H) → Bool := fun _ ds => decide (uptoBulkAll ds ≤ 1048576)
def OpenSpec.upto (s : _root_.Go.ChangeSpec) : _root_.Go.OpenSpec := { _root_.Go.OpenSpec.ofChange s with cond := some uptoSmall }

/-- 'headcountlaw11.SeenNames', WHERE WHAT IT READS IS OF BULK AT MOST 1048576: true; the input reads as it did. -/
def seenNamesUptoRow : OpenClaim := { program := "ytohofgmdellpnaa", sum := "22a4aa77a807aa14e4bb175b2b663445de7a6e2097924b8f9f08c22c80576c77", func := "headcount/headcountlaw11.SeenNames", spec := "seenNames", unfollowed := true, recurses := true, apart := false, narrowed := true }
def SeenNamesUptoSaid : Prop := seenNamesUptoRow.holds Try.pinned (OpenSpec.upto seenNamesSpec)

/-- 'headcountlaw11.SeenTells', WHERE WHAT IT READS IS OF BULK AT MOST 1048576: true; the input reads as it did. -/
def seenTellsUptoRow : OpenClaim := { program := "ytohofgmdellpnaa", sum := "22a4aa77a807aa14e4bb175b2b663445de7a6e2097924b8f9f08c22c80576c77", func := "headcount/headcountlaw11.SeenTells", spec := "seenTells", unfollowed := true, recurses := true, apart := false, narrowed := true }
def SeenTellsUptoSaid : Prop := seenTellsUptoRow.holds Try.pinned (OpenSpec.upto seenTellsSpec)

/-- 'headcountlaw11.SeenKeeps', WHERE WHAT IT READS IS OF BULK AT MOST 1048576: true; the input reads as it did. -/
def seenKeepsUptoRow : OpenClaim := { program := "ytohofgmdellpnaa", sum := "22a4aa77a807aa14e4bb175b2b663445de7a6e2097924b8f9f08c22c80576c77", func := "headcount/headcountlaw11.SeenKeeps", spec := "seenKeeps", unfollowed := true, recurses := true, apart := false, narrowed := true }
def SeenKeepsUptoSaid : Prop := seenKeepsUptoRow.holds Try.pinned (OpenSpec.upto seenKeepsSpec)

/-- 'headcountlaw11.SeenOrder', WHERE WHAT IT READS IS OF BULK AT MOST 1048576: true; the input reads as it did. -/
def seenOrderUptoRow : OpenClaim := { program := "ytohofgmdellpnaa", sum := "22a4aa77a807aa14e4bb175b2b663445de7a6e2097924b8f9f08c22c80576c77", func := "headcount/headcountlaw11.SeenOrder", spec := "seenOrder", unfollowed := true, recurses := true, apart := false, narrowed := true }
def SeenOrderUptoSaid : Prop := seenOrderUptoRow.holds Try.pinned (OpenSpec.upto seenOrderSpec)

/-- 'headcountlaw11.SeenFirst', WHERE WHAT IT READS IS OF BULK AT MOST 1048576: true; the input reads as it did. -/
def seenFirstUptoRow : OpenClaim := { program := "ytohofgmdellpnaa", sum := "22a4aa77a807aa14e4bb175b2b663445de7a6e2097924b8f9f08c22c80576c77", func := "headcount/headcountlaw11.SeenFirst", spec := "seenFirst", unfollowed := true, recurses := true, apart := false, narrowed := true }
def SeenFirstUptoSaid : Prop := seenFirstUptoRow.holds Try.pinned (OpenSpec.upto seenFirstSpec)

end Rows
end Go.Proofs.Ytohofgmdellpnaa
