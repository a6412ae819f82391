/-
  No cell of these rows narrows 'for every input' (looked for: loops, veiled, ifaces, maps, wideKeys, modest, calm, conditions, laid).
  DERIVED. THE GIVEN ROWS OF THIS SEAT. 5 by the template 'for every input the law returns true; each argument reads behind the call as it read before'; 0 by the template 'total and deterministic' (their statements: YtelalanhalbicaaTotals.lean).
  GIVEN WITH THE SEED: the statements are not yours to turn. If you find one false, say at which input.
  Laid BY PROGRAM, IN A SANDBOX (cutbox-rows.mjs): the forced cells as the released guide's own fill.sh prints them over the translation dece6835a8136947… (all of the seat's roots in one cut). By AI agents, Wed Nov 11 2026. No macro, syntax, notation, axiom, sorry.
-/
import Derived.Test.YtelalanhalbicaaChecked
import GoSem.Claim
import GoSem.ClaimJoined
import GoSem.ClaimMapViews
import Derived.JoinedTies
import Derived.KernelRfl
namespace Go.Proofs.Ytelalanhalbicaa
/- THE CELL 'sum', in the pinned program and in every row, IS THE sha256 OF THE DUMP (.gsa) THAT YtelalanhalbicaaProg.lean LOADS. Nothing in Lean hashes anything: it is a label: what it is worth is what the hold of that sum in a sandbox is worth. -/
noncomputable def Try.pinned : Pinned := { name := "ytelalanhalbicaa", sum := "dece6835a8136947f5895c8ac9f7f9de99bccaf599b9bd4676e2e9d46b79b719", checked := Try.checked }
namespace Rows
def none {H : Type} : Left H := { results := [], args := [] }

/-- 'headcountlaw07.DescNames': WHATEVER THE INPUT: true; the input reads as it did. -/
def descNamesSpec : ChangeSpec := { name := "descNames", fn := fun _ => fun
  | [] => { results := [.lit (.bool true)], args := [] }
  | _ => none }
def descNamesRow : OpenClaim := { program := "ytelalanhalbicaa", sum := "dece6835a8136947f5895c8ac9f7f9de99bccaf599b9bd4676e2e9d46b79b719", func := "headcount/headcountlaw07.DescNames", spec := "descNames", inPlace := ["slices.overlaps[headcount/api.Desc]"], unfollowed := true, recurses := true, apart := false }
def DescNamesSaid : Prop := descNamesRow.holds Try.pinned (OpenSpec.ofChange descNamesSpec)

/-- ITS FALSE NEIGHBOUR: 'it returns false'. Refute it at one input. -/
def descNamesWrong : ChangeSpec := { name := "descNames", fn := fun _ => fun
  | [] => { results := [.lit (.bool false)], args := [] }
  | _ => none }
def DescNamesWrongFalsely : Prop := descNamesRow.holds Try.pinned (OpenSpec.ofChange descNamesWrong)

/-- 'headcountlaw07.DescTells': WHATEVER THE INPUT: true; the input reads as it did. -/
def descTellsSpec : ChangeSpec := { name := "descTells", fn := fun _ => fun
  | [d1, d2, d3, d4] => { results := [.lit (.bool true)], args := [d1, d2, d3, d4] }
  | _ => none }
def descTellsRow : OpenClaim := { program := "ytelalanhalbicaa", sum := "dece6835a8136947f5895c8ac9f7f9de99bccaf599b9bd4676e2e9d46b79b719", func := "headcount/headcountlaw07.DescTells", spec := "descTells", inPlace := ["slices.overlaps[headcount/api.Desc]"], unfollowed := true, recurses := true, apart := false }
def DescTellsSaid : Prop := descTellsRow.holds Try.pinned (OpenSpec.ofChange descTellsSpec)

/-- ITS FALSE NEIGHBOUR: 'it returns false'. Refute it at one input. -/
def descTellsWrong : ChangeSpec := { name := "descTells", fn := fun _ => fun
  | [d1, d2, d3, d4] => { results := [.lit (.bool false)], args := [d1, d2, d3, d4] }
  | _ => none }
def DescTellsWrongFalsely : Prop := descTellsRow.holds Try.pinned (OpenSpec.ofChange descTellsWrong)

/-- 'headcountlaw07.DescOrder': WHATEVER THE INPUT: true; the input reads as it did. -/
def descOrderSpec : ChangeSpec := { name := "descOrder", fn := fun _ => fun
  | [d] => { results := [.lit (.bool true)], args := [d] }
  | _ => none }
def descOrderRow : OpenClaim := { program := "ytelalanhalbicaa", sum := "dece6835a8136947f5895c8ac9f7f9de99bccaf599b9bd4676e2e9d46b79b719", func := "headcount/headcountlaw07.DescOrder", spec := "descOrder", inPlace := ["slices.overlaps[headcount/api.Desc]"], unfollowed := true, recurses := true, apart := false }
def DescOrderSaid : Prop := descOrderRow.holds Try.pinned (OpenSpec.ofChange descOrderSpec)

/-- ITS FALSE NEIGHBOUR: 'it returns false'. Refute it at one input. -/
def descOrderWrong : ChangeSpec := { name := "descOrder", fn := fun _ => fun
  | [d] => { results := [.lit (.bool false)], args := [d] }
  | _ => none }
def DescOrderWrongFalsely : Prop := descOrderRow.holds Try.pinned (OpenSpec.ofChange descOrderWrong)

/-- 'headcountlaw07.DescBest': WHATEVER THE INPUT: true; the input reads as it did. -/
def descBestSpec : ChangeSpec := { name := "descBest", fn := fun _ => fun
  | [d1, d2] => { results := [.lit (.bool true)], args := [d1, d2] }
  | _ => none }
def descBestRow : OpenClaim := { program := "ytelalanhalbicaa", sum := "dece6835a8136947f5895c8ac9f7f9de99bccaf599b9bd4676e2e9d46b79b719", func := "headcount/headcountlaw07.DescBest", spec := "descBest", inPlace := ["slices.overlaps[headcount/api.Desc]"], unfollowed := true, recurses := true, apart := false }
def DescBestSaid : Prop := descBestRow.holds Try.pinned (OpenSpec.ofChange descBestSpec)

/-- ITS FALSE NEIGHBOUR: 'it returns false'. Refute it at one input. -/
def descBestWrong : ChangeSpec := { name := "descBest", fn := fun _ => fun
  | [d1, d2] => { results := [.lit (.bool false)], args := [d1, d2] }
  | _ => none }
def DescBestWrongFalsely : Prop := descBestRow.holds Try.pinned (OpenSpec.ofChange descBestWrong)

/-- 'headcountlaw07.DescTotal': WHATEVER THE INPUT: true; the input reads as it did. -/
def descTotalSpec : ChangeSpec := { name := "descTotal", fn := fun _ => fun
  | [d1, d2, d3] => { results := [.lit (.bool true)], args := [d1, d2, d3] }
  | _ => none }
def descTotalRow : OpenClaim := { program := "ytelalanhalbicaa", sum := "dece6835a8136947f5895c8ac9f7f9de99bccaf599b9bd4676e2e9d46b79b719", func := "headcount/headcountlaw07.DescTotal", spec := "descTotal", inPlace := ["slices.overlaps[headcount/api.Desc]"], unfollowed := true, recurses := true, apart := false }
def DescTotalSaid : Prop := descTotalRow.holds Try.pinned (OpenSpec.ofChange descTotalSpec)

/-- ITS FALSE NEIGHBOUR: 'it returns false'. Refute it at one input. -/
def descTotalWrong : ChangeSpec := { name := "descTotal", fn := fun _ => fun
  | [d1, d2, d3] => { results := [.lit (.bool false)], args := [d1, d2, d3] }
  | _ => none }
def DescTotalWrongFalsely : Prop := descTotalRow.holds Try.pinned (OpenSpec.ofChange descTotalWrong)

/- THE SECOND FORM. 'bulk': how many values and letters a reading holds, each counted each time it is reached (what is shared counts as often as it is met; a slice's spare places count too). A statement '..UptoSaid' is the law's where the arguments, and the package variables that the reading takes, are together of bulk at most 1048576: NARROWER than '..Said'. Prove '..Said' where nothing that the law and all that it calls make is longer than what came in: it says more and counts as full. Else prove '..UptoSaid'. A law counts once. -/
mutual
def uptoBulk {H : Type} : DataW H → Nat
  | .lit (.string bytes) => bytes.length + 1
  | .lit _ => 1
  | .nil => 1
  | .ptr d => uptoBulk d + 1
  | .slice elems spare => uptoBulkAll elems + uptoBulkAll spare + 1
  | .agg parts => uptoBulkAll parts + 1
  | .iface _ d => uptoBulk d + 1
  | .map entries => uptoBulkEntries entries + 1
  | .held _ => 1
def uptoBulkAll {H : Type} : List (DataW H) → Nat
  | [] => 0
  | d :: r => uptoBulk d + uptoBulkAll r
def uptoBulkEntries {H : Type} : List (Lit × DataW H) → Nat
  | [] => 0
  | x :: r => uptoBulkEntry x + uptoBulkEntries r
def uptoBulkEntry {H : Type} : Lit × DataW H → Nat
  | (.string bytes, d) => bytes.length + uptoBulk d + 1
  | (_, d) => uptoBulk d + 1
 end
def uptoSmall : (H : Type) → List (DataW H) → Bool := fun _ ds => decide (uptoBulkAll ds ≤ 1048576)
def OpenSpec.upto (s : _root_.Go.ChangeSpec) : _root_.Go.OpenSpec := { _root_.Go.OpenSpec.ofChange s with cond := some uptoSmall }

/-- 'headcountlaw07.DescNames', WHERE WHAT IT READS IS OF BULK AT MOST 1048576: true; the input reads as it did. -/
def descNamesUptoRow : OpenClaim := { program := "ytelalanhalbicaa", sum := "dece6835a8136947f5895c8ac9f7f9de99bccaf599b9bd4676e2e9d46b79b719", func := "headcount/headcountlaw07.DescNames", spec := "descNames", inPlace := ["slices.overlaps[headcount/api.Desc]"], unfollowed := true, recurses := true, apart := false, narrowed := true }
def DescNamesUptoSaid : Prop := descNamesUptoRow.holds Try.pinned (OpenSpec.upto descNamesSpec)

/-- 'headcountlaw07.DescTells', WHERE WHAT IT READS IS OF BULK AT MOST 1048576: true; the input reads as it did. -/
def descTellsUptoRow : OpenClaim := { program := "ytelalanhalbicaa", sum := "dece6835a8136947f5895c8ac9f7f9de99bccaf599b9bd4676e2e9d46b79b719", func := "headcount/headcountlaw07.DescTells", spec := "descTells", inPlace := ["slices.overlaps[headcount/api.Desc]"], unfollowed := true, recurses := true, apart := false, narrowed := true }
def DescTellsUptoSaid : Prop := descTellsUptoRow.holds Try.pinned (OpenSpec.upto descTellsSpec)

/-- 'headcountlaw07.DescOrder', WHERE WHAT IT READS IS OF BULK AT MOST 1048576: true; the input reads as it did. -/
def descOrderUptoRow : OpenClaim := { program := "ytelalanhalbicaa", sum := "dece6835a8136947f5895c8ac9f7f9de99bccaf599b9bd4676e2e9d46b79b719", func := "headcount/headcountlaw07.DescOrder", spec := "descOrder", inPlace := ["slices.overlaps[headcount/api.Desc]"], unfollowed := true, recurses := true, apart := false, narrowed := true }
def DescOrderUptoSaid : Prop := descOrderUptoRow.holds Try.pinned (OpenSpec.upto descOrderSpec)

/-- 'headcountlaw07.DescBest', WHERE WHAT IT READS IS OF BULK AT MOST 1048576: true; the input reads as it did. -/
def descBestUptoRow : OpenClaim := { program := "ytelalanhalbicaa", sum := "dece6835a8136947f5895c8ac9f7f9de99bccaf599b9bd4676e2e9d46b79b719", func := "headcount/headcountlaw07.DescBest", spec := "descBest", inPlace := ["slices.overlaps[headcount/api.Desc]"], unfollowed := true, recurses := true, apart := false, narrowed := true }
def DescBestUptoSaid : Prop := descBestUptoRow.holds Try.pinned (OpenSpec.upto descBestSpec)

/-- 'headcountlaw07.DescTotal', WHERE WHAT IT READS IS OF BULK AT MOST 1048576: true; the input reads as it did. -/
def descTotalUptoRow : OpenClaim := { program := "ytelalanhalbicaa", sum := "dece6835a8136947f5895c8ac9f7f9de99bccaf599b9bd4676e2e9d46b79b719", func := "headcount/headcountlaw07.DescTotal", spec := "descTotal", inPlace := ["slices.overlaps[headcount/api.Desc]"], unfollowed := true, recurses := true, apart := false, narrowed := true }
def DescTotalUptoSaid : Prop := descTotalUptoRow.holds Try.pinned (OpenSpec.upto descTotalSpec)

end Rows
end Go.Proofs.Ytelalanhalbicaa
