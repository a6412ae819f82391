/- Package frame: Clone, Take; Put. -/
import Derived.Test.YtmaggpigodkhhaaFtake
namespace Go.Proofs.Ytmaggpigodkhhaa
open Go.RowKit

/-- 'append([]byte{}, y...)'. -/
theorem copy_bytes {ops : Array Oper} {rest : List Oper} {o : Oper} {a : Act} {Q : Exit → Act → World → Prop} (hgd : o.guard = none) (s x : Operand)
    (ho : o.op = .call { callee := .builtin .append, args := #[s, x], argTypes := #[22, 22] }) {w : World} {B m c : Nat} {ys : List Nat} {A : Option Addr} (hs : a.eval s = .slice (some ⟨w.heap.size, 0, none⟩) 0 0) (hx : a.eval x = .slice A m c)
    (hy : By w B A m c ys) (hn : m ≤ 17592186044416)
    (h : ∀ v' w', Hid (Ow w' w.heap.size v' ys) → Hid (Below w.heap.size w w') → wpList Try.prog ops Q rest (a.put o.dst v') w') : wpList Try.prog ops Q (o :: rest) a (w.alloc (.cells #[] 5)) := by
  refine wpList_append_copy hgd s x 22 ho 5 (.int .u8 0) 1 (by kernel_rfl) u8_info rfl (by omega) hs hx (news := vals ys) (by rw [vals_length, hy.len]) hy.nil hy.cells (fun u hu => vals_one hu) hn ?_
  intro v' w' hown' hb
  refine h v' w' (hid ⟨?_, hy.lt, ?_⟩) hb
  · rw [hy.len]
    exact hown'.out
  · rw [hy.len]
    exact hy.max

theorem flt_good {xs : List Nat} (hf : flt xs = 0) : 9 ≤ xs.length ∧ xs.length - 9 ≤ 4096 ∧ nm (xs.drop (xs.length - 4)) = crc (xs.take (xs.length - 4)) ∧ xs.getD 0 0 = 72 ∧ xs.getD 1 0 = 1 ∧ xs.getD 3 0 * 256 + xs.getD 4 0 = xs.length - 9 := by
  unfold flt at hf
  split at hf
  · cases hf
  · split at hf
    · split at hf
      · rename_i h1 h2 h3
        exact ⟨by omega, h3.2.2.1, h2, h3.1, h3.2.1, h3.2.2.2⟩
      · cases hf
    · cases hf

end Go.Proofs.Ytmaggpigodkhhaa
