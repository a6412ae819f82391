/- The laws of choose, out of their walks. -/
import Derived.Test.YtdemhghflanncaaHpb
import Derived.Test.YtdemhghflanncaaHnam
import Derived.Test.YtdemhghflanncaaHonc
import Derived.Test.YtdemhghflanncaaHtls
namespace Go.Proofs.Ytdemhghflanncaa
open Go.RowKit Go.Shelf Go.Lib

theorem some_ok : SomeOk := SomeOwn.ok some_own
theorem halive_ok : HAliveOk := fun w => halive_walk one_ok some_ok draws_ok w
theorem cround_walk {w : World} {nc cc : Nat} {Ac : Option Addr} {k : List De} {o p x : Int} (hc : Ds w w.heap.size Ac nc cc k) (hx : 0 ≤ x ∧ x ≤ 18446744073709551615) :
    Calls Try.prog 5 #[cav o p (.slice Ac nc cc), .int .u64 x] w fun e w' => e = .returned (.bool true) ∧ Below w.heap.size w w' := by
  obtain ⟨y, rfl⟩ : ∃ y : Nat, x = (y : Int) := ⟨x.toNat, by omega⟩
  exact hround_walk halive_ok one_ok o p y (by omega) hc
theorem chonce_walk {w : World} {nc cc nd cd : Nat} {Ac Ad : Option Addr} {k : List De} {r : List Nat} {o p : Int} (hc : Ds w w.heap.size Ac nc cc k) (hd : Us w w.heap.size Ad nd cd r) :
    Calls Try.prog 6 #[cav o p (.slice Ac nc cc), .slice Ad nd cd] w fun e w' => e = .returned (.bool true) ∧ Below w.heap.size w w' := honce_walk halive_ok some_ok draws_ok o p hc hd
theorem cbegins_walk {w : World} {nc cc nd cd : Nat} {Ac Ad : Option Addr} {k : List De} {r : List Nat} {o p z : Int} (hc : Ds w w.heap.size Ac nc cc k) (hd : Us w w.heap.size Ad nd cd r) :
    Calls Try.prog 7 #[cav o p (.slice Ac nc cc), .slice Ad nd cd, .int .i64 z] w fun e w' => e = .returned (.bool true) ∧ Below w.heap.size w w' := hbegins_walk halive_ok one_ok some_ok o p z hc hd
theorem ctells_walk {w : World} {nc cc nd cd nl cl : Nat} {Ac Ad Al : Option Addr} {k l : List De} {r : List Nat} {o p x : Int} (hc : Ds w w.heap.size Ac nc cc k) (hx : 0 ≤ x ∧ x ≤ 18446744073709551615) (hd : Us w w.heap.size Ad nd cd r) (hl : Ds w w.heap.size Al nl cl l) :
    Calls Try.prog 4 #[cav o p (.slice Ac nc cc), .int .u64 x, .slice Ad nd cd, .slice Al nl cl] w fun e w' => e = .returned (.bool true) ∧ Below w.heap.size w w' := by
  obtain ⟨y, rfl⟩ : ∃ y : Nat, x = (y : Int) := ⟨x.toNat, by omega⟩
  exact htells_walk one_ok some_own draws_ok o p y (by omega) hc hd hl
theorem cnames_walk {w : World} : Calls Try.prog 3 #[] w fun e w' => e = .returned (.bool true) ∧ Below w.heap.size w w' := hnames_walk halive_ok one_ok some_ok draws_ok
end Go.Proofs.Ytdemhghflanncaa
