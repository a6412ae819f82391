/-
  No cell of these rows narrows 'for every input' (looked for: loops, veiled, ifaces, maps, wideKeys, modest, calm, conditions, laid).
  DERIVED. THE GIVEN ROWS OF THIS SEAT. 5 by the template 'for every input the law returns true; each argument reads behind the call as it read before'; 0 by the template 'total and deterministic' (their statements: YthklhhgkklpbkaaTotals.lean).
  GIVEN WITH THE SEED: the statements are not yours to turn. If you find one false, say at which input.
  Laid BY PROGRAM, IN A SANDBOX (cutbox-rows.mjs): the forced cells as the released guide's own fill.sh prints them over the translation d63d09379562b87b… (all of the seat's roots in one cut). By AI agents, Wed Nov 11 2026. No macro, syntax, notation, axiom, sorry.
-/
import Derived.Test.YthklhhgkklpbkaaChecked
import GoSem.Claim
import GoSem.ClaimJoined
import GoSem.ClaimMapViews
import Derived.JoinedTies
import Derived.KernelRfl
namespace Go.Proofs.Ythklhhgkklpbkaa
/- THE CELL 'sum', in the pinned program and in every row, IS THE sha256 OF THE DUMP (.gsa) THAT YthklhhgkklpbkaaProg.lean LOADS. Nothing in Lean hashes anything: it is a label: what it is worth is what the hold of that sum in a sandbox is worth. -/
noncomputable def Try.pinned : Pinned := { name := "ythklhhgkklpbkaa", sum := "d63d09379562b87bb68f521b3d8aaa4c88139fb0ff2af92f4942d54a13e12ad5", checked := Try.checked }
namespace Rows
def none {H : Type} : Left H := { results := [], args := [] }

/-- 'headcountlaw08.CacheNames': WHATEVER THE INPUT: true; the input reads as it did. -/
def cacheNamesSpec : ChangeSpec := { name := "cacheNames", fn := fun _ => fun
  | [] => { results := [.lit (.bool true)], args := [] }
  | _ => none }
def cacheNamesRow : OpenClaim := { program := "ythklhhgkklpbkaa", sum := "d63d09379562b87bb68f521b3d8aaa4c88139fb0ff2af92f4942d54a13e12ad5", func := "headcount/headcountlaw08.CacheNames", spec := "cacheNames", inPlace := ["slices.overlaps[headcount/api.Desc]"], unfollowed := true, recurses := true, apart := false }
def CacheNamesSaid : Prop := cacheNamesRow.holds Try.pinned (OpenSpec.ofChange cacheNamesSpec)

/-- ITS FALSE NEIGHBOUR: 'it returns false'. Refute it at one input. -/
def cacheNamesWrong : ChangeSpec := { name := "cacheNames", fn := fun _ => fun
  | [] => { results := [.lit (.bool false)], args := [] }
  | _ => none }
def CacheNamesWrongFalsely : Prop := cacheNamesRow.holds Try.pinned (OpenSpec.ofChange cacheNamesWrong)

/-- 'headcountlaw08.CacheTells': WHATEVER THE INPUT: true; the input reads as it did. -/
def cacheTellsSpec : ChangeSpec := { name := "cacheTells", fn := fun _ => fun
  | [d1, d2, d3, d4] => { results := [.lit (.bool true)], args := [d1, d2, d3, d4] }
  | _ => none }
def cacheTellsRow : OpenClaim := { program := "ythklhhgkklpbkaa", sum := "d63d09379562b87bb68f521b3d8aaa4c88139fb0ff2af92f4942d54a13e12ad5", func := "headcount/headcountlaw08.CacheTells", spec := "cacheTells", inPlace := ["slices.overlaps[headcount/api.Desc]"], unfollowed := true, recurses := true, apart := false }
def CacheTellsSaid : Prop := cacheTellsRow.holds Try.pinned (OpenSpec.ofChange cacheTellsSpec)

/-- ITS FALSE NEIGHBOUR: 'it returns false'. Refute it at one input. -/
def cacheTellsWrong : ChangeSpec := { name := "cacheTells", fn := fun _ => fun
  | [d1, d2, d3, d4] => { results := [.lit (.bool false)], args := [d1, d2, d3, d4] }
  | _ => none }
def CacheTellsWrongFalsely : Prop := cacheTellsRow.holds Try.pinned (OpenSpec.ofChange cacheTellsWrong)

/-- 'headcountlaw08.CacheOnce': WHATEVER THE INPUT: true; the input reads as it did. -/
def cacheOnceSpec : ChangeSpec := { name := "cacheOnce", fn := fun _ => fun
  | [d1, d2, d3] => { results := [.lit (.bool true)], args := [d1, d2, d3] }
  | _ => none }
def cacheOnceRow : OpenClaim := { program := "ythklhhgkklpbkaa", sum := "d63d09379562b87bb68f521b3d8aaa4c88139fb0ff2af92f4942d54a13e12ad5", func := "headcount/headcountlaw08.CacheOnce", spec := "cacheOnce", inPlace := ["slices.overlaps[headcount/api.Desc]"], unfollowed := true, recurses := true, apart := false }
def CacheOnceSaid : Prop := cacheOnceRow.holds Try.pinned (OpenSpec.ofChange cacheOnceSpec)

/-- ITS FALSE NEIGHBOUR: 'it returns false'. Refute it at one input. -/
def cacheOnceWrong : ChangeSpec := { name := "cacheOnce", fn := fun _ => fun
  | [d1, d2, d3] => { results := [.lit (.bool false)], args := [d1, d2, d3] }
  | _ => none }
def CacheOnceWrongFalsely : Prop := cacheOnceRow.holds Try.pinned (OpenSpec.ofChange cacheOnceWrong)

/-- 'headcountlaw08.CacheFresh': WHATEVER THE INPUT: true; the input reads as it did. -/
def cacheFreshSpec : ChangeSpec := { name := "cacheFresh", fn := fun _ => fun
  | [d1, d2] => { results := [.lit (.bool true)], args := [d1, d2] }
  | _ => none }
def cacheFreshRow : OpenClaim := { program := "ythklhhgkklpbkaa", sum := "d63d09379562b87bb68f521b3d8aaa4c88139fb0ff2af92f4942d54a13e12ad5", func := "headcount/headcountlaw08.CacheFresh", spec := "cacheFresh", inPlace := ["slices.overlaps[headcount/api.Desc]"], unfollowed := true, recurses := true, apart := false }
def CacheFreshSaid : Prop := cacheFreshRow.holds Try.pinned (OpenSpec.ofChange cacheFreshSpec)

/-- ITS FALSE NEIGHBOUR: 'it returns false'. Refute it at one input. -/
def cacheFreshWrong : ChangeSpec := { name := "cacheFresh", fn := fun _ => fun
  | [d1, d2] => { results := [.lit (.bool false)], args := [d1, d2] }
  | _ => none }
def CacheFreshWrongFalsely : Prop := cacheFreshRow.holds Try.pinned (OpenSpec.ofChange cacheFreshWrong)

/-- 'headcountlaw08.CacheOffers': WHATEVER THE INPUT: true; the input reads as it did. -/
def cacheOffersSpec : ChangeSpec := { name := "cacheOffers", fn := fun _ => fun
  | [d1, d2, d3] => { results := [.lit (.bool true)], args := [d1, d2, d3] }
  | _ => none }
def cacheOffersRow : OpenClaim := { program := "ythklhhgkklpbkaa", sum := "d63d09379562b87bb68f521b3d8aaa4c88139fb0ff2af92f4942d54a13e12ad5", func := "headcount/headcountlaw08.CacheOffers", spec := "cacheOffers", inPlace := ["slices.overlaps[headcount/api.Desc]"], unfollowed := true, recurses := true, apart := false }
def CacheOffersSaid : Prop := cacheOffersRow.holds Try.pinned (OpenSpec.ofChange cacheOffersSpec)

/-- ITS FALSE NEIGHBOUR: 'it returns false'. Refute it at one input. -/
def cacheOffersWrong : ChangeSpec := { name := "cacheOffers", fn := fun _ => fun
  | [d1, d2, d3] => { results := [.lit (.bool false)], args := [d1, d2, d3] }
  | _ => none }
def CacheOffersWrongFalsely : Prop := cacheOffersRow.holds Try.pinned (OpenSpec.ofChange cacheOffersWrong)

/- THE SECOND FORM. 'bulk': how many values and letters a reading holds, each counted each time it is reached (what is shared counts as often as it is met; a slice's spare places count too). A statement '..UptoSaid' is the law's where the arguments, and the package variables that the reading takes, are together of bulk at most 1048576: NARROWER than '..Said'. Prove '..Said' where nothing that the law and all that it calls make is longer than what came in: it says more and counts as full. Else prove '..UptoSaid'. A law counts once. -/
mutual
def uptoBulk {H : Type} : DataW H → Nat
  | .lit (.string bytes) => bytes.length + 1
  | .lit _ => 1
  | .nil => 1
  | .ptr d => uptoBulk d + 1
  | .slice elems spare => uptoBulkAll elems + uptoBulkAll spare + 1
  | .agg parts => uptoBulkAll parts + 1
  | .iface _ d => uptoBulk d + 1
  | .map entries => uptoBulkEntries entries + 1
  | .held _ => 1
def uptoBulkAll {H : Type} : List (DataW H) → Nat
  | [] => 0
  | d :: r => uptoBulk d + uptoBulkAll r
def uptoBulkEntries {H : Type} : List (Lit × DataW H) → Nat
  | [] => 0
  | x :: r => uptoBulkEntry x + uptoBulkEntries r
def uptoBulkEntry {H : Type} : Lit × DataW H → Nat
  | (.string bytes, d) => bytes.length + uptoBulk d + 1
  | (_, d) => uptoBulk d + 1
 end
def uptoSmall : (H : Type) → List (DataW H) → Bool := fun _ ds => decide (uptoBulkAll ds ≤ 1048576)
def OpenSpec.upto (s : _root_.Go.ChangeSpec) : _root_.Go.OpenSpec := { _root_.Go.OpenSpec.ofChange s with cond := some uptoSmall }

/-- 'headcountlaw08.CacheNames', WHERE WHAT IT READS IS OF BULK AT MOST 1048576: true; the input reads as it did. -/
def cacheNamesUptoRow : OpenClaim := { program := "ythklhhgkklpbkaa", sum := "d63d09379562b87bb68f521b3d8aaa4c88139fb0ff2af92f4942d54a13e12ad5", func := "headcount/headcountlaw08.CacheNames", spec := "cacheNames", inPlace := ["slices.overlaps[headcount/api.Desc]"], unfollowed := true, recurses := true, apart := false, narrowed := true }
def CacheNamesUptoSaid : Prop := cacheNamesUptoRow.holds Try.pinned (OpenSpec.upto cacheNamesSpec)

/-- 'headcountlaw08.CacheTells', WHERE WHAT IT READS IS OF BULK AT MOST 1048576: true; the input reads as it did. -/
def cacheTellsUptoRow : OpenClaim := { program := "ythklhhgkklpbkaa", sum := "d63d09379562b87bb68f521b3d8aaa4c88139fb0ff2af92f4942d54a13e12ad5", func := "headcount/headcountlaw08.CacheTells", spec := "cacheTells", inPlace := ["slices.overlaps[headcount/api.Desc]"], unfollowed := true, recurses := true, apart := false, narrowed := true }
def CacheTellsUptoSaid : Prop := cacheTellsUptoRow.holds Try.pinned (OpenSpec.upto cacheTellsSpec)

/-- 'headcountlaw08.CacheOnce', WHERE WHAT IT READS IS OF BULK AT MOST 1048576: true; the input reads as it did. -/
def cacheOnceUptoRow : OpenClaim := { program := "ythklhhgkklpbkaa", sum := "d63d09379562b87bb68f521b3d8aaa4c88139fb0ff2af92f4942d54a13e12ad5", func := "headcount/headcountlaw08.CacheOnce", spec := "cacheOnce", inPlace := ["slices.overlaps[headcount/api.Desc]"], unfollowed := true, recurses := true, apart := false, narrowed := true }
def CacheOnceUptoSaid : Prop := cacheOnceUptoRow.holds Try.pinned (OpenSpec.upto cacheOnceSpec)

/-- 'headcountlaw08.CacheFresh', WHERE WHAT IT READS IS OF BULK AT MOST 1048576: true; the input reads as it did. -/
def cacheFreshUptoRow : OpenClaim := { program := "ythklhhgkklpbkaa", sum := "d63d09379562b87bb68f521b3d8aaa4c88139fb0ff2af92f4942d54a13e12ad5", func := "headcount/headcountlaw08.CacheFresh", spec := "cacheFresh", inPlace := ["slices.overlaps[headcount/api.Desc]"], unfollowed := true, recurses := true, apart := false, narrowed := true }
def CacheFreshUptoSaid : Prop := cacheFreshUptoRow.holds Try.pinned (OpenSpec.upto cacheFreshSpec)

/-- 'headcountlaw08.CacheOffers', WHERE WHAT IT READS IS OF BULK AT MOST 1048576: true; the input reads as it did. -/
def cacheOffersUptoRow : OpenClaim := { program := "ythklhhgkklpbkaa", sum := "d63d09379562b87bb68f521b3d8aaa4c88139fb0ff2af92f4942d54a13e12ad5", func := "headcount/headcountlaw08.CacheOffers", spec := "cacheOffers", inPlace := ["slices.overlaps[headcount/api.Desc]"], unfollowed := true, recurses := true, apart := false, narrowed := true }
def CacheOffersUptoSaid : Prop := cacheOffersUptoRow.holds Try.pinned (OpenSpec.upto cacheOffersSpec)

end Rows
end Go.Proofs.Ythklhhgkklpbkaa
