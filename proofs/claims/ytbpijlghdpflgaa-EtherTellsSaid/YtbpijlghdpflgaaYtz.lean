/- EtherTells over the program. -/
import Derived.Test.YtbpijlghdpflgaaYtl
import Derived.Test.YtbpijlghdpflgaaYpf
namespace Go.Proofs.Ytbpijlghdpflgaa.Eth
open Go.RowKit Go.Shelf Go.Lib

theorem etells_walk {w : World} {n c no co m d : Nat} {A Ao D : Option Addr} {l r : List Cp} {x y i z : Int} {t : List Nat} {s : Bool}
    (h : Cls w w.heap.size A n c l) (hr : Cls w w.heap.size Ao no co r) (ht : Gs w w.heap.size D m d 1 (cellsB t)) (hf : ∀ b ∈ t, b < 256) :
    Calls Try.prog 3 #[.slice A n c, .slice Ao no co, .agg #[.int .i64 x, .int .i64 y, .slice D m d, .bool s], .int .i64 i, .int .i64 z] w fun e w' => e = .returned (.bool true) ∧ Below w.heap.size w w' :=
  tells_walk (fun _ _ _ _ _ _ h hB => check_ok h hB) (fun _ _ _ _ _ _ _ _ _ _ _ h k hB hC => same_ok h k hB hC) twin_ok send_ok take_ok double_ok many_ok h hr ht hf
end Go.Proofs.Ytbpijlghdpflgaa.Eth
