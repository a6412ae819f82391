/- The reference's Limbs: the limbs of bits. -/
import Derived.Test.YtmaggpigodkhhaaRdig
namespace Go.Proofs.Ytmaggpigodkhhaa
open Go.RowKit

/-- A number's limbs. -/
def lb (V j : Nat) : Nat := V / pw j % 4294967296
theorem lb_lt (V j : Nat) : lb V j < 4294967296 := by unfold lb; omega
theorem lb_out {V q j : Nat} (h : V < pw q) (hj : q ≤ j) : lb V j = 0 := by
  unfold lb
  rw [Nat.div_eq_of_lt (Nat.lt_of_lt_of_le h (pw_mono hj))]
theorem vl_lb (V : Nat) : ∀ q, vl (lb V) q = V % pw q
  | 0 => by simp [vl, pw, Nat.mod_one]
  | q + 1 => by rw [vl_succ, vl_lb V q, pw_succ, Nat.mod_mul, Nat.mul_comm (pw q)]; rfl
theorem vl_lb_all {V q : Nat} (h : V < pw q) : vl (lb V) q = V := by rw [vl_lb, Nat.mod_eq_of_lt h]

theorem limb_step {V q t : Nat} (h2 : t < 32 * q + 32) : V % tw (32 * q + 32) / tw t = 2 * (V % tw (32 * q + 32) / tw (t + 1)) + bt V t := by
  obtain ⟨d, hd⟩ : ∃ d, 32 * q + 32 = t + (1 + d) := ⟨32 * q + 31 - t, by omega⟩
  rw [tw_half, hd, tw_add, Nat.mod_mul_right_div_self, tw_add, show tw 1 = 2 from rfl]
  unfold bt
  have h := Nat.mod_mul_right_mod (V / tw t) 2 (tw d)
  generalize V / tw t % (2 * tw d) = a at *
  omega
theorem limb_end (V q : Nat) : V % tw (32 * q + 32) / tw (32 * q) = lb V q := by
  rw [tw_add, Nat.mod_mul_right_div_self, ← tw_pw]
  rfl
theorem limb_lt {V q t : Nat} (h : 32 * q ≤ t) : V % tw (32 * q + 32) / tw t < 4294967296 := by
  have h1 := lb_lt V q
  rw [← limb_end] at h1
  exact Nat.lt_of_le_of_lt (Nat.div_le_div_left (tw_mono h) (tw_pos _)) h1
theorem limb_start {V n q t : Nat} (hV : V < tw n) (h : t = n ∨ t = 32 * q + 32) : V % tw (32 * q + 32) / tw t = 0 := by
  apply Nat.div_eq_of_lt
  rcases h with rfl | rfl
  · exact Nat.lt_of_le_of_lt (Nat.mod_le _ _) hV
  · exact Nat.mod_lt _ (tw_pos _)

/-- The first n limbs of V, as cells. -/
def lg (V n : Nat) : List Value := (List.range n).map fun j => Value.int .u32 (lb V j : Int)
theorem lg_succ (V n : Nat) : lg V (n + 1) = lg V n ++ [Value.int .u32 (lb V n : Int)] := by simp [lg, List.range_succ]
theorem lg_at {V n j : Nat} (h : j < n) : (lg V n)[j]? = some (.int .u32 (lb V j : Int)) := by
  simp [lg, h]

/-- What is gathered of V's limbs, in a row of the call's own. -/
def Lrow (w : World) (B V n : Nat) (v : Value) : Prop := w.ownsRow B 50 1 v n (lg V n)
theorem Lrow.nil (w : World) (B V : Nat) : Lrow w B V 0 (.slice none 0 0) := ⟨rfl, .inl ⟨rfl, rfl⟩⟩
theorem Lrow.shape {w : World} {B V n : Nat} {v : Value} (h : Lrow w B V n v) (hV : V < pw n) (hmax : n ≤ 140737488355328) : ∃ A c, v = .slice A n c ∧ Rd w w.heap.size A n c (lb V) := by
  obtain ⟨_, hor⟩ := h
  rcases hor with ⟨rfl, rfl⟩ | ⟨g, cap, cur, rfl, hg, hh, hn, hc, hs, ht⟩
  · exact ⟨none, 0, rfl, ⟨Nat.le_refl _, hmax, lb_lt V, fun j hj => lb_out hV hj, fun h => absurd h (by omega)⟩⟩
  · refine ⟨some ⟨g, 0, none⟩, cap, rfl, ⟨hn, hmax, lb_lt V, fun j hj => lb_out hV hj, fun _ => ⟨g, 0, rfl, lt_of_heap hh, fun j hj => ?_⟩⟩⟩
    rw [Nat.zero_add, cell_of_row w g j cur 50 (0, 0) hh, ← Array.getElem?_toList]
    have e := lg_at (V := V) hj
    rw [← ht, List.getElem?_take, Nat.mul_one, if_pos hj] at e
    exact e

theorem info_u32 : (Try.prog.info? 50).map (fun i => (i.zero, i.size, i.bytes)) = some (some (.int .u32 0), 1, 4) := by kernel_rfl

/-- A number's limbs, however many, none that is 0 at the end. -/
def Lm (w : World) (B V : Nat) (v : Value) : Prop := ∃ A k c h, v = .slice A k c ∧ Rd w B A k c h ∧ (0 < k → h (k - 1) ≠ 0) ∧ vl h k = V

theorem Lm.below {w w' : World} {B V : Nat} {v : Value} (h : Lm w B V v) (hb : Below B w w') : Lm w' B V v := by
  obtain ⟨A, k, c, f, hv, hr, hl⟩ := h
  exact ⟨A, k, c, f, hv, hr.below hb, hl⟩
theorem Lm.mono {w : World} {B B' V : Nat} {v : Value} (h : Lm w B V v) (hb : B ≤ B') : Lm w B' V v := by
  obtain ⟨A, k, c, f, hv, hr, hl⟩ := h
  exact ⟨A, k, c, f, hv, hr.mono hb, hl⟩

theorem limbs_end {V n q : Nat} (hV : V < tw n) (hl : 0 < n → tw (n - 1) ≤ V) (h1 : n ≤ 32 * q) (h2 : 32 * q ≤ n + 31) : V < pw q ∧ (0 < q → lb V (q - 1) ≠ 0) := by
  have a : V < pw q := by
    rw [tw_pw]
    exact Nat.lt_of_lt_of_le hV (tw_mono h1)
  refine ⟨a, fun hq => ?_⟩
  obtain ⟨p, rfl⟩ : ∃ p, q = p + 1 := ⟨q - 1, by omega⟩
  have b : pw p ≤ V := by
    rw [tw_pw]
    exact Nat.le_trans (tw_mono (by omega)) (hl (by omega))
  rw [Nat.add_sub_cancel]
  unfold lb
  rw [pw_succ] at a
  have c := Nat.div_pos b (pw_pos p)
  have d : V / pw p < 4294967296 := (Nat.div_lt_iff_lt_mul (pw_pos p)).2 (by rw [Nat.mul_comm]; exact a)
  generalize V / pw p = x at *
  omega

end Go.Proofs.Ytmaggpigodkhhaa
