/- Package frame: sums. -/
import Derived.Test.YtiablmnaincciaaMem
import Derived.Test.YtiablmnaincciaaCrc
import Derived.Test.YtiablmnaincciaaChecked
import Derived.RegionTactic
import Derived.IntWalk
import Derived.Laws.BitsAllLaws
namespace Go.Proofs.Ytiablmnaincciaa
open Go.RowKit

/-- The slice value '.slice A n c' reads, in the world w, as the bytes xs, below block B. -/
structure By (w : World) (B : Nat) (A : Option Addr) (n c : Nat) (xs : List Nat) : Prop where
  len : xs.length = n
  cap : n ≤ c
  max : n ≤ 140737488355328
  lt : ∀ x ∈ xs, x < 256
  nil : A = none → n = 0 ∧ c = 0
  at_ : 0 < n → ∃ b off, A = some ⟨b, off, none⟩ ∧ b < B ∧ ∀ (j x : Nat), xs[j]? = some x → w.cell? ⟨b, off + j, none⟩ = some (.int .u8 (x : Int))

section
variable {w w' : World} {B n c : Nat} {A : Option Addr} {xs : List Nat}
theorem By.below (h : By w B A n c xs) (hb : Below B w w') : By w' B A n c xs :=
  ⟨h.len, h.cap, h.max, h.lt, h.nil, fun hn => by
    obtain ⟨b, off, rfl, hB, hc⟩ := h.at_ hn
    exact ⟨b, off, rfl, hB, fun j x hj => (hb.cell (p := ⟨b, off + j, none⟩) hB).trans (hc j x hj)⟩⟩
theorem By.mono {B' : Nat} (h : By w B A n c xs) (hb : B ≤ B') : By w B' A n c xs :=
  ⟨h.len, h.cap, h.max, h.lt, h.nil, fun hn => by
    obtain ⟨b, off, rfl, hB, hc⟩ := h.at_ hn
    exact ⟨b, off, rfl, by omega, hc⟩⟩
end

theorem xor_u32 (s x : Nat) (hs : s < 4294967296) (hx : x < 4294967296) : bits BinOp.xor IntKind.u32 (s : Int) (x : Int) = ((s ^^^ x : Nat) : Int) := u32_xor_nat s x hs hx

set_option maxHeartbeats 1600000 in
theorem with_any (s x : Nat) (hs : s < 4294967296) (hx : x < 256) (w : World) :
    Calls Try.prog 19 #[.int .u32 (s : Int), .int .u8 (x : Int)] w fun e w' => e = .returned (.int .u32 (cb s x : Int)) ∧ w = w' := by
  have h1 := xor_u32 s x hs (by omega)
  obtain ⟨T, hT⟩ : ∃ T, T = s ^^^ x := ⟨_, rfl⟩
  have hTl : T < 4294967296 := hT ▸ Nat.xor_lt_two_pow (n := 32) hs (by omega)
  have hcb : Hid (cb s x = cn 8 T) := hid (by rw [hT]; rfl)
  rw [← hT] at h1
  clear hT
  go_enter Try.func19, Try.ntmps19
  go_wp2
  go_loop [0, 10] (fun a i => ∃ k t : Nat, k ≤ 8 ∧ i = .int .i64 k ∧ a = .int .u32 (t : Int) ∧ t < 4294967296 ∧ Hid (t = cn k T)) (fun _ i => 8 - (intOf i).toNat)
  case atStart => exact ⟨0, T, by omega, rfl, rfl, hTl, hid rfl⟩
  case round =>
    obtain ⟨k, t, hk, rfl, rfl, ht, He⟩ := hrel
    have ha : bits BinOp.and IntKind.u32 (t : Int) 1 = ((t % 2 : Nat) : Int) := by
      rw [← Nat.and_one_is_mod]
      exact u32_and_nat t 1 ht (by omega)
    have hx2 : bits BinOp.xor IntKind.u32 ((t : Int) / 2) 3988292384 = ((t / 2 ^^^ 3988292384 : Nat) : Int) := xor_u32 (t / 2) 3988292384 (by omega) (by omega)
    have hxl : t / 2 ^^^ 3988292384 < 4294967296 := Nat.xor_lt_two_pow (n := 32) (by omega) (by omega)
    have hnext : Hid (c1 t = cn (k + 1) T) := hid (by rw [cn_add, ← He.out]; rfl)
    by_cases hcon : k < 8
    · rcases Nat.mod_two_eq_zero_or_one t with h2 | h2
      · have hc1 : Hid (t / 2 = cn (k + 1) T) := hid (by rw [← hnext.out]; unfold c1; rw [h2, if_neg (by omega), Nat.xor_zero])
        rw [h2] at ha
        clear h2 hx2 hxl hnext
        go_wp2
        go_round
        case rel => exact ⟨k + 1, t / 2, by omega, rfl, by simp, by omega, hc1⟩
        case measure => simp [intOf]; omega
      · have hc1 : Hid (t / 2 ^^^ 3988292384 = cn (k + 1) T) := hid (by rw [← hnext.out]; unfold c1; rw [h2, if_pos rfl])
        rw [h2] at ha
        generalize t / 2 ^^^ 3988292384 = y at *
        clear h2 hnext
        go_wp2
        go_round
        case rel => exact ⟨k + 1, y, by omega, rfl, rfl, hxl, hc1⟩
        case measure => simp [intOf]; omega
    · obtain rfl : k = 8 := by omega
      go_wp2
      go_ret
      exact ⟨by rw [hcb.out, ← He.out]; rfl, rfl⟩

theorem take_fold {xs : List Nat} {k x s : Nat} (h : xs[k]? = some x) : (xs.take (k + 1)).foldl cb s = cb ((xs.take k).foldl cb s) x := by
  rw [List.take_add_one, h, List.foldl_append]
  rfl

set_option maxHeartbeats 1600000 in
theorem goOn_any {w : World} {B n c : Nat} {A : Option Addr} {xs : List Nat} (h : By w B A n c xs) (s : Nat) (hs : s < 4294967296) :
    Calls Try.prog 18 #[.int .u32 (s : Int), .slice A n c, .func (.func 19) #[] #[]] w fun e w' => e = .returned (.int .u32 ((xs.foldl cb s : Nat) : Int)) ∧ w = w' := by
  have H := hid h
  have hm := h.max
  have hcap := h.cap
  clear h
  go_enter Try.func18, Try.ntmps18
  go_wp2
  go_loop [0, 8, 11] (fun a _ i => ∃ k t : Nat, k ≤ n ∧ i = .int .i64 k ∧ a = .int .u32 (t : Int) ∧ t < 4294967296 ∧ Hid (t = (xs.take k).foldl cb s)) (fun _ _ i => n - (intOf i).toNat)
  case atStart => exact ⟨0, s, by omega, rfl, rfl, hs, hid rfl⟩
  case round =>
    obtain ⟨k, t, hk, rfl, rfl, ht, He⟩ := hrel
    by_cases hcon : k < n
    · obtain ⟨b, off, rfl, _, hc⟩ := H.out.at_ (by omega)
      obtain ⟨x, hx⟩ : ∃ x, xs[k]? = some x := ⟨xs[k]'(by rw [H.out.len]; exact hcon), List.getElem?_eq_getElem _⟩
      have hcell := hc k x hx
      have hx256 := H.out.lt x (List.mem_of_getElem? hx)
      have CW := hid (with_any t x ht hx256)
      have Hx := hid hx
      have Hl := hid (cb_lt ht hx256)
      clear hc hx hx256
      go_wp2_with fail
      refine (CW.out _).mono ?_
      rintro e w' ⟨rfl, rfl⟩
      go_wp2
      go_round
      case rel => exact ⟨k + 1, cb t x, by omega, rfl, rfl, Hl.out, hid (by rw [take_fold Hx.out, He.out])⟩
      case measure => simp [intOf]; omega
    · obtain rfl : k = n := by omega
      go_wp2
      go_ret
      exact ⟨by rw [He.out, List.take_of_length_le (by rw [H.out.len]; exact Nat.le_refl _)]; rfl, rfl⟩

set_option maxHeartbeats 1600000 in
theorem Sum_any {w : World} {B n c : Nat} {A : Option Addr} {xs : List Nat} (h : By w B A n c xs) :
    Calls Try.prog 10 #[.slice A n c] w fun e w' => e = .returned (.int .u32 (crc xs : Int)) ∧ w = w' := by
  have C := hid (goOn_any h 4294967295 (by omega))
  have hf := fold_lt xs 4294967295 h.lt (by omega)
  have hc : Hid (crc xs = xs.foldl cb 4294967295 ^^^ 4294967295) := rfl
  generalize xs.foldl cb 4294967295 = t at *
  have hx : bits BinOp.xor IntKind.u32 IntKind.u32.max (t : Int) = ((crc xs : Nat) : Int) := by
    rw [hc.out, Nat.xor_comm]
    exact u32_xor_nat 4294967295 t (by omega) hf
  clear h hc
  go_enter Try.func10, Try.ntmps10
  go_wp2_with fail
  refine C.out.mono ?_
  rintro e w' ⟨rfl, rfl⟩
  go_wp2
  all_goals first
    | (rename_i hsg; exact absurd hsg (by decide))
    | (go_ret; exact ⟨rfl, rfl⟩)

end Go.Proofs.Ytiablmnaincciaa
