/- Package frame: takeSum, fault, Take; Put. -/
import Derived.Test.YtmaggpigodkhhaaFrow
namespace Go.Proofs.Ytmaggpigodkhhaa
open Go.RowKit

theorem nm_take {xs : List Nat} {k x : Nat} (h : xs[k]? = some x) : nm (xs.take (k + 1)) = nm (xs.take k) + x * 256 ^ k := by
  have hl := (List.getElem?_eq_some_iff.1 h).1
  rw [List.take_add_one, h, nm_append]
  show _ + 256 ^ (xs.take k).length * (x + 256 * 0) = _
  rw [List.length_take, Nat.min_eq_left (by omega), Nat.mul_zero, Nat.add_zero, Nat.mul_comm]

/-- A part of the bytes, from place lo on. -/
theorem By.part {w : World} {B n c b off : Nat} {xs : List Nat} (lo hi l : Nat) (h : By w B (some ⟨b, off, none⟩) n c xs) (h1 : hi = lo + l) (h2 : hi ≤ n) : By w B (some ⟨b, off + lo, none⟩) l (c - lo) ((xs.take hi).drop lo) := by
  have hl := h.len
  have hcap := h.cap
  refine ⟨by rw [List.length_drop, List.length_take]; omega, by omega, Nat.le_trans (by omega) h.max, fun x hx => h.lt x (List.mem_of_mem_take (List.mem_of_mem_drop hx)), fun hA => (by cases hA), fun h0 => ?_⟩
  obtain ⟨b', off', e, hB, hc⟩ := h.at_ (by omega)
  injection e with e
  injection e with e1 e2
  subst e1
  subst e2
  refine ⟨b, off + lo, rfl, hB, fun j x hj => ?_⟩
  rw [List.getElem?_drop, List.getElem?_take] at hj
  split at hj
  · rw [Nat.add_assoc]
    exact hc _ _ hj
  · cases hj
/-- The first bytes. -/
theorem By.first {w : World} {B n c : Nat} {A : Option Addr} {xs : List Nat} (l : Nat) (h : By w B A n c xs) (h2 : l ≤ n) : By w B A l c (xs.take l) := by
  have hl := h.len
  have hcap := h.cap
  refine ⟨by rw [List.length_take]; omega, by omega, Nat.le_trans (by omega) h.max, fun x hx => h.lt x (List.mem_of_mem_take hx), fun hA => ?_, fun h0 => ?_⟩
  · have := h.nil hA
    omega
  · obtain ⟨b, off, rfl, hB, hc⟩ := h.at_ (by omega)
    refine ⟨b, off, rfl, hB, fun j x hj => hc _ _ ?_⟩
    rw [List.getElem?_take] at hj
    split at hj
    · exact hj
    · cases hj

/-- What fault answers. -/
def flt (xs : List Nat) : Int :=
  if xs.length < 9 then 40
  else if nm (xs.drop (xs.length - 4)) = crc (xs.take (xs.length - 4)) then
    if xs.getD 0 0 = 72 ∧ xs.getD 1 0 = 1 ∧ xs.length - 9 ≤ 4096 ∧ xs.getD 3 0 * 256 + xs.getD 4 0 = xs.length - 9 then 0 else 41
  else 42

theorem or_small (a b : Nat) (ha : a < 65536) (hb : b < 65536) : bits BinOp.or IntKind.i64 (a : Int) (b : Int) = ((a ||| b : Nat) : Int) := by
  have hx : a ||| b < 2 ^ 16 := Nat.or_lt_two_pow (by omega) (by omega)
  show IntKind.i64.wrap ((BitVec.ofInt 64 (a : Int) ||| BitVec.ofInt 64 (b : Int)).toNat : Int) = _
  rw [BitVec.toNat_or, ofInt_u64 a (by omega), ofInt_u64 b (by omega), IntWalk.i64_in _ (by omega)]

end Go.Proofs.Ytmaggpigodkhhaa
