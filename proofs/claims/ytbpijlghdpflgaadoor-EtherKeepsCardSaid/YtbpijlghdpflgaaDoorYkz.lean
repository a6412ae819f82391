/- EtherKeeps over the program. -/
import Derived.Test.YtbpijlghdpflgaaDoorYkb
import Derived.Test.YtbpijlghdpflgaaDoorYpg
namespace Go.Proofs.YtbpijlghdpflgaaDoor.Eth
open Go.RowKit Go.Shelf Go.Lib

theorem paid : Paid Tab := ⟨fun _ _ _ _ _ _ h hB => check_ok h hB, fun _ _ _ _ _ _ _ _ _ _ _ h k hB hC => same_ok h k hB hC, send_ok, take_ok, double_ok, spoil_ok', stays_tab⟩
theorem ekeeps_walk {w : World} {n c m d : Nat} {A D : Option Addr} {l : List Cp} {x y i : Int} {t : List Nat} {s : Bool} (h : Cls w w.heap.size A n c l) (ht : Gs w w.heap.size D m d 1 (cellsB t)) (hf : ∀ b ∈ t, b < 256) (hT : Tab w) :
    Calls Tryd.prog 5 #[.slice A n c, .int .i64 i, .agg #[.int .i64 x, .int .i64 y, .slice D m d, .bool s]] w fun e w' => e = .returned (.bool true) ∧ Below w.heap.size w w' := by
  by_cases hgr : grC l
  · exact keeps_great paid hT h ht hf hgr
  by_cases hm : 5000 < m
  · exact keeps_long paid hT h ht hf hgr hm
  by_cases hq : tkE l i = 0
  · exact keeps_full paid hT h ht hf hgr hm hq
  · exact keeps_bad paid hT h ht hf hgr hm hq
end Go.Proofs.YtbpijlghdpflgaaDoor.Eth
