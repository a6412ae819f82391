/- EtherSpoils and EtherOther over the program. -/
import Derived.Test.YtbpijlghdpflgaaDoorYlp
import Derived.Test.YtbpijlghdpflgaaDoorYov
import Derived.Test.YtbpijlghdpflgaaDoorYpg
namespace Go.Proofs.YtbpijlghdpflgaaDoor.Eth
open Go.RowKit Go.Shelf Go.Lib

theorem espoils_walk {w : World} {n c : Nat} {A : Option Addr} {l : List Cp} {i a b : Int} (h : Cls w w.heap.size A n c l) (hb : 0 ≤ b ∧ b ≤ 4294967295) (hT : Tab w) :
    Calls Tryd.prog 4 #[.slice A n c, .int .i64 i, .int .i64 a, .int .u32 b] w fun e w' => e = .returned (.bool true) ∧ Below w.heap.size w w' := by
  obtain ⟨m, rfl⟩ : ∃ m : Nat, b = (m : Int) := ⟨b.toNat, by omega⟩
  exact spoils_walk spoil_ok' stays_tab hT (by omega) h
theorem eother_walk {w : World} {n c : Nat} {A : Option Addr} {l : List Cp} {i a b : Int} (h : Cls w w.heap.size A n c l) (hb : 0 ≤ b ∧ b ≤ 4294967295) (hT : Tab w) :
    Calls Tryd.prog 6 #[.slice A n c, .int .i64 i, .int .i64 a, .int .u32 b] w fun e w' => e = .returned (.bool true) ∧ Below w.heap.size w w' := by
  obtain ⟨m, rfl⟩ : ∃ m : Nat, b = (m : Int) := ⟨b.toNat, by omega⟩
  exact other_walk (fun _ _ _ _ _ _ _ _ _ _ _ h k hB hC => same_ok h k hB hC) send_ok take_ok double_ok spoil_ok' stays_tab hT (by omega) h
end Go.Proofs.YtbpijlghdpflgaaDoor.Eth
