/- Ether: the document's Send. -/
import Derived.Test.YtbpijlghdpflgaaDoorYtw
import Derived.Deep.RegionHeld3
namespace Go.Proofs.YtbpijlghdpflgaaDoor.Eth
open Go.RowKit Go.Shelf Go.Lib

/-- What a call leaves that answers copies and an error. -/
def LstR (w : World) (q : Int) (l : List Cp) (e : Ending) (w' : World) : Prop := ∃ A' n' c' rs, e = .returned (.tuple #[.slice A' n' c', .int .i64 q]) ∧ Hid (Cow w' (fun q => w.heap.size ≤ q) A' n' c' rs l ∧ Below w.heap.size w w' ∧ n' = l.length)
theorem LstR.none' {w w' : World} {q : Int} (hb : Below w.heap.size w w') : LstR w q [] (.returned (.tuple #[.slice none 0 0, .int .i64 q])) w' := ⟨_, _, _, _, rfl, hid ⟨Cow.nil _ _, hb, rfl⟩⟩

theorem twin_own {w : World} {B n c : Nat} {A : Option Addr} {l : List Cp} (h : Cls w B A n c l) (hB : B ≤ w.heap.size) (hn : n ≤ 1000) (hT : ∀ p ∈ l, MayC p) : Calls Tryd.prog 14 #[.slice A n c] w (TwinR w n l) :=
  twin_any h hB hn fun p hp => by have := (hT p hp).2.2.2; omega

/-- Lists put together, as they lie. -/
theorem cls_join {w2 w4 : World} {A4 : Option Addr} {n4 c4 B : Nat} {l : List Cp} {rl : List Cr} {r : Cr} {p : Cp} (hp : Pair w2 w2.heap.size rl l) (hr : Crd w2 w2.heap.size r p) (hb : Below w2.heap.size w2 w4) (hO : Gw w4 B 28 4 (.slice A4 n4 c4) n4 (cellsC rl ++ cellsC [r])) : Cls w4 w4.heap.size A4 n4 c4 (l ++ [p]) := by
  obtain ⟨A', c', e, hG, _⟩ := hO.form
  injection e with e1 e2 e3
  subst e1 e3
  rw [← cellsC_append] at hG
  exact ⟨_, hG, ((hp.snoc hr).below hb).mono hb.size⟩

end Go.Proofs.YtbpijlghdpflgaaDoor.Eth
