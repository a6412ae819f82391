/- EtherTells, walked over the program's calls. (Printed by gen_ytl.py.) -/
import Derived.Test.YtbpijlghdpflgaaDoorYlp
namespace Go.Proofs.YtbpijlghdpflgaaDoor.Eth
open Go.RowKit Go.Shelf Go.Lib

/-- Between two blocks. -/
def iv (a b : Nat) (q : Nat) : Prop := a ≤ q ∧ q < b
theorem Cow.bound {w : World} {S : Nat → Prop} {A : Option Addr} {n c : Nat} {rs : List Cr} {l : List Cp} (h : Cow w S A n c rs l) : Cow w (fun q => S q ∧ q < w.heap.size) A n c rs l :=
  ⟨h.rd, h.pair, fun r hr h0 => by
    obtain ⟨tb, off, cur, e, hs, hh, hc⟩ := h.txt r hr h0
    exact ⟨tb, off, cur, e, ⟨hs, lt_of_heap hh⟩, hh, hc⟩, fun h0 => by
    obtain ⟨g, off, cur, e, hs, hh, hc⟩ := h.row h0
    exact ⟨g, off, cur, e, ⟨hs, lt_of_heap hh⟩, hh, hc⟩⟩
theorem Cow.apart {w w' : World} {S T : Nat → Prop} {A : Option Addr} {n c : Nat} {rs : List Cr} {l : List Cp} (h : Cow w T A n c rs l) (k : KeepS S w w') (hd : ∀ q, T q → ¬ S q) : Cow w' T A n c rs l := h.keep k.size (fun q hq hlt => k.block q hlt (hd q hq))
theorem Tow.bound {w : World} {S : Nat → Prop} {r : Cr} (h : Tow w S r) : Tow w (fun q => S q ∧ q < w.heap.size) r := fun h0 => by
  obtain ⟨tb, off, cur, e, hs, hh, hc⟩ := h h0
  exact ⟨tb, off, cur, e, ⟨hs, lt_of_heap hh⟩, hh, hc⟩
theorem Tow.apart {w w' : World} {S T : Nat → Prop} {r : Cr} {p : Cp} {B : Nat} (h : Tow w T r) (c : Crd w B r p) (k : KeepS S w w') (hd : ∀ q, T q → ¬ S q) : Tow w' T r ∧ Crd w' w'.heap.size r p := by
  have k8 : Keep8 T w w' := ⟨k.size, fun q cur hq hh => k.block q (lt_of_heap hh) (hd q hq)⟩
  exact ⟨h.kept k8, h.crd c k8⟩
theorem Cbx.apart {w w' : World} {S : Nat → Prop} {g n c : Nat} {x y : Int} {A : Option Addr} {s : Bool} (h : Cbx w g x y A n c s) (k : KeepS S w w') (hd : ¬ S g) : Cbx w' g x y A n c s := (k.block g h.lt hd).trans h
theorem snL_len (l : List Cp) (c : Cp) : (snL l c).length ≤ l.length + 1 := by
  unfold snL
  split
  · simp
  · simp
theorem dbL_len (l : List Cp) (i : Int) : (dbL l i).length ≤ l.length + 1 := by
  unfold dbL
  split
  · simp
  · simp
theorem tkL_len (l : List Cp) (i : Int) : (tkL l i).length ≤ l.length + 1 := by
  unfold tkL
  split
  · rw [List.length_append, List.length_take, List.length_drop]; omega
  · simp

end Go.Proofs.YtbpijlghdpflgaaDoor.Eth
