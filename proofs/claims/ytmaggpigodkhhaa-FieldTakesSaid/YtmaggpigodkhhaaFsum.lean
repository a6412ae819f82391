/- Package frame: sums. -/
import Derived.Test.YtmaggpigodkhhaaMem
import Derived.Test.YtmaggpigodkhhaaCrc
import Derived.Test.YtmaggpigodkhhaaChecked
import Derived.RegionTactic
import Derived.IntWalk
import Derived.Laws.BitsAllLaws
namespace Go.Proofs.Ytmaggpigodkhhaa
open Go.RowKit

/-- The slice value '.slice A n c' reads, in the world w, as the bytes xs, below block B. -/
structure By (w : World) (B : Nat) (A : Option Addr) (n c : Nat) (xs : List Nat) : Prop where
  len : xs.length = n
  cap : n ≤ c
  max : n ≤ 140737488355328
  lt : ∀ x ∈ xs, x < 256
  nil : A = none → n = 0 ∧ c = 0
  at_ : 0 < n → ∃ b off, A = some ⟨b, off, none⟩ ∧ b < B ∧ ∀ (j x : Nat), xs[j]? = some x → w.cell? ⟨b, off + j, none⟩ = some (.int .u8 (x : Int))

section
variable {w w' : World} {B n c : Nat} {A : Option Addr} {xs : List Nat}
theorem By.below (h : By w B A n c xs) (hb : Below B w w') : By w' B A n c xs :=
  ⟨h.len, h.cap, h.max, h.lt, h.nil, fun hn => by
    obtain ⟨b, off, rfl, hB, hc⟩ := h.at_ hn
    exact ⟨b, off, rfl, hB, fun j x hj => (hb.cell (p := ⟨b, off + j, none⟩) hB).trans (hc j x hj)⟩⟩
theorem By.mono {B' : Nat} (h : By w B A n c xs) (hb : B ≤ B') : By w B' A n c xs :=
  ⟨h.len, h.cap, h.max, h.lt, h.nil, fun hn => by
    obtain ⟨b, off, rfl, hB, hc⟩ := h.at_ hn
    exact ⟨b, off, rfl, by omega, hc⟩⟩
end

theorem xor_u32 (s x : Nat) (hs : s < 4294967296) (hx : x < 4294967296) : bits BinOp.xor IntKind.u32 (s : Int) (x : Int) = ((s ^^^ x : Nat) : Int) := u32_xor_nat s x hs hx

theorem take_fold {xs : List Nat} {k x s : Nat} (h : xs[k]? = some x) : (xs.take (k + 1)).foldl cb s = cb ((xs.take k).foldl cb s) x := by
  rw [List.take_add_one, h, List.foldl_append]
  rfl

end Go.Proofs.Ytmaggpigodkhhaa
