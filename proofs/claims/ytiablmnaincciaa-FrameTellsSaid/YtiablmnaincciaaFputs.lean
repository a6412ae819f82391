/- Package frame: Put. -/
import Derived.Test.YtiablmnaincciaaFput
namespace Go.Proofs.Ytiablmnaincciaa
open Go.RowKit

/-- A frame's head. -/
def hd (kind : Nat) (xs : List Nat) : List Nat := [72, 1, kind, xs.length / 256, xs.length % 256]
/-- A frame. -/
def frm (kind : Nat) (xs : List Nat) : List Nat := hd kind xs ++ xs ++ bys (crc (hd kind xs ++ xs)) 4

set_option maxHeartbeats 1600000 in
theorem Put_many {w : World} {n c : Nat} {A : Option Addr} {kind : Nat} (hn : 4096 < n) :
    Calls Try.prog 8 #[.int .u8 (kind : Int), .slice A n c] w fun e w' => e = .returned (.tuple #[.slice none 0 0, .int .i64 4]) ∧ w = w' := by
  go_enter Try.func8, Try.ntmps8
  go_wp2
  go_ret2
  exact ⟨rfl, rfl⟩

theorem hd_lt {kind : Nat} {xs : List Nat} (hk : kind < 256) (hn : xs.length ≤ 4096) : ∀ x ∈ hd kind xs, x < 256 := by
  intro x hx
  simp [hd] at hx
  rcases hx with h | h | h | h | h <;> omega

theorem Ow.made {w : World} {B c : Nat} (hB : B ≤ w.heap.size) (hc : c ≤ 1000000) : Ow (w.alloc (.cells (madeCells #[.int .u8 0] c) 5)) B (.slice (some ⟨w.heap.size, 0, none⟩) 0 c) [] :=
  ⟨⟨rfl, .inr ⟨w.heap.size, c, _, rfl, hB, heap_alloc_new w _, Nat.zero_le _, by unfold maxLen; omega, by simp [madeCells], rfl⟩⟩, by simp, by simp⟩

set_option maxHeartbeats 3200000 in
theorem Put_fits {w : World} {n c : Nat} {A : Option Addr} {kind : Nat} {xs : List Nat} (h : By w w.heap.size A n c xs) (hk : kind < 256) (hn : n ≤ 4096) :
    Calls Try.prog 8 #[.int .u8 (kind : Int), .slice A n c] w fun e w' => ∃ v, e = .returned (.tuple #[v, .int .i64 0]) ∧ Hid (Ow w' w.heap.size v (frm kind xs)) ∧ Hid (Below w.heap.size w w') := by
  have hcap := h.cap
  have hlen := h.len
  obtain ⟨i, hi, hz, hsz, hby⟩ := info_one u8_info
  have hmk : (Instr.makeSlice 22 (.int .i64 0) (.int .i64 (9 + (n : Int)))).run Try.prog w = .ok (.slice (some ⟨w.heap.size, 0, none⟩) 0 (9 + n)) (w.alloc (.cells (madeCells #[.int .u8 0] (9 + n)) 5)) := by
    have hr := run_make (P := Try.prog) w 22 5 i (.int .u8 0) (by kernel_rfl) hi hz .i64 .i64 0 (9 + (n : Int)) (by omega) (by omega) (by rw [hby]; omega) (by omega)
    rw [hr, hsz, show (9 + (n : Int)).toNat = 9 + n by omega, Nat.mul_one]
    rfl
  have hw9 : IntKind.i64.wrap (9 + (n : Int)) = 9 + (n : Int) := IntWalk.i64_in _ (by omega)
  have O1 := Ow.made (w := w) (B := w.heap.size) (c := 9 + n) (Nat.le_refl _) (by omega)
  have B1 : Below w.heap.size w (w.alloc (.cells (madeCells #[.int .u8 0] (9 + n)) 5)) := (Below.refl _ w).alloc (Nat.le_refl _) _
  generalize hW : w.alloc (.cells (madeCells #[.int .u8 0] (9 + n)) 5) = W at *
  have hyl := hd_lt (kind := kind) (xs := xs) hk (by omega)
  obtain ⟨y1, hy1⟩ : ∃ y1, y1 = xs.length / 256 := ⟨_, rfl⟩
  obtain ⟨y2, hy2⟩ : ∃ y2, y2 = xs.length % 256 := ⟨_, rfl⟩
  have hv1 : (n : Int) / 256 = (y1 : Int) := by omega
  have hv2 : (n : Int) % 256 = (y2 : Int) := by omega
  have Hhd : Hid ([72, 1, kind, y1, y2] = hd kind xs) := hid (by rw [hy1, hy2]; rfl)
  rw [← Hhd.out] at hyl
  have HO1 := hid (O1.below ((Below.refl W.heap.size W).alloc (Nat.le_refl _) (.cells (vals [72, 1, kind, y1, y2]).toArray 5)) (Nat.le_refl _))
  have HB1 := hid (B1.trans ((((Below.refl W.heap.size W).alloc (Nat.le_refl _) (.cells (vals [72, 1, kind, y1, y2]).toArray 5))).mono B1.size))
  have HY := hid (By.new W [72, 1, kind, y1, y2] hyl (by simp))
  have HX := hid h
  have hs1 := B1.size
  have Hlen := hid hlen
  clear h O1 B1 hi hz hsz hby hlen hy1 hy2 hyl
  obtain ⟨zs, hzs⟩ : ∃ zs, hd kind xs ++ xs = zs := ⟨_, rfl⟩
  obtain ⟨l, hl⟩ : ∃ l, zs.length = l := ⟨_, rfl⟩
  have hl2 : l ≤ 5000 := by rw [← hl, ← hzs, List.length_append, Hlen.out]; simp [hd]; omega
  have Hzs : Hid ([] ++ [72, 1, kind, y1, y2] ++ xs = zs) := hid (by rw [← hzs, Hhd.out]; rfl)
  have Hz2 : Hid (hd kind xs ++ xs = zs) := hid hzs
  have Hl := hid hl
  clear hzs hl
  go_enter Try.func8, Try.ntmps8
  go_wp2_with (first
    | (at_builtin; refine app_bytes rfl (.tmp 14) (.tmp 23) rfl rfl rfl HO1.out (by simp; omega) HY.out (by simp) ?_; intro v1 w1 hO1 hb1; have Hx1 := hid (HX.out.below (HB1.out.trans hb1.out)); have hs2 := (HB1.out.trans hb1.out).size)
    | (at_builtin; refine app_bytes rfl (.tmp 25) (.tmp 26) rfl rfl rfl hO1.out hs2 Hx1.out (by simp; omega) ?_; intro v2 w2 hO2 hb2; have hO3 := hO2.out; rw [Hzs.out] at hO3; have hsh := hO3.shape; rw [Hl.out] at hsh; obtain ⟨A2, c2, rfl, hY2⟩ := hsh; have HY2 := hid hY2; have HO3 := hid hO3; clear hY2 hO3 hO2; have Hs3 := hid hb2.out.size)
    | (go_at_call 10; with_reducible refine (Sum_any HY2.out).mono ?_; rintro e w3 ⟨rfl, rfl⟩)
    | (go_at_call 15; with_reducible refine (putSum_any HO3.out (Nat.le_trans hs2 Hs3.out) (by rw [Hl.out]; omega)).mono ?_; rintro e w3 ⟨v3, rfl, hO4, hb4⟩)
    | fail)
  go_ret2
  refine ⟨_, rfl, hid ?_, hid (((HB1.out.trans hb1.out).trans hb2.out).trans hb4.out)⟩
  unfold frm
  rw [Hz2.out]
  exact hO4.out

end Go.Proofs.Ytiablmnaincciaa
