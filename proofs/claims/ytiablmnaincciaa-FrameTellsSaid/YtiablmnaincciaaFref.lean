/- The document's sums, frames, and what is taken. -/
import Derived.Test.YtiablmnaincciaaFputs
namespace Go.Proofs.Ytiablmnaincciaa
open Go.RowKit

set_option maxHeartbeats 3200000 in
theorem RSum_any {w : World} {B n c : Nat} {A : Option Addr} {xs : List Nat} (h : By w B A n c xs) :
    Calls Try.prog 14 #[.slice A n c] w fun e w' => e = .returned (.int .u32 (crc xs : Int)) ∧ w = w' := by
  have H := hid h
  have hm := h.max
  have hcap := h.cap
  have hc : Hid (crc xs = xs.foldl cb 4294967295 ^^^ 4294967295) := rfl
  clear h
  go_enter Try.func14, Try.ntmps14
  go_wp2
  go_loop [3, 4, 5, 6] (fun a i _ _ => ∃ k t : Nat, k ≤ n ∧ i = .int .i64 k ∧ a = .int .u32 (t : Int) ∧ t < 4294967296 ∧ Hid (t = (xs.take k).foldl cb 4294967295)) (fun _ i _ _ => n - (intOf i).toNat)
  case atStart => exact ⟨0, 4294967295, by omega, rfl, rfl, by omega, hid rfl⟩
  case round =>
    obtain ⟨k, t, hk, rfl, rfl, ht, He⟩ := hrel
    by_cases hcon : k < n
    · obtain ⟨b, off, rfl, _, hcc⟩ := H.out.at_ (by omega)
      obtain ⟨x, hx⟩ : ∃ x, xs[k]? = some x := ⟨xs[k]'(by rw [H.out.len]; exact hcon), List.getElem?_eq_getElem _⟩
      have hcell := hcc k x hx
      have hx256 := H.out.lt x (List.mem_of_getElem? hx)
      have h1 := xor_u32 t x ht (by omega)
      have hT : Hid (cb t x = cn 8 (t ^^^ x)) := hid rfl
      have hTl : t ^^^ x < 4294967296 := Nat.xor_lt_two_pow (n := 32) ht (by omega)
      have hnext : Hid ((xs.take (k + 1)).foldl cb 4294967295 = cb t x) := hid (by rw [take_fold hx, He.out])
      generalize t ^^^ x = T at *
      clear hcc hx
      go_wp2
      go_loop [3, 5, 6] (fun a i _ => ∃ j s : Nat, j ≤ 8 ∧ i = .int .i64 j ∧ a = .int .u32 (s : Int) ∧ s < 4294967296 ∧ Hid (s = cn j T)) (fun _ i _ => 8 - (intOf i).toNat)
      case atStart => exact ⟨0, T, by omega, rfl, rfl, hTl, hid rfl⟩
      case round =>
        obtain ⟨j, s, hj, rfl, rfl, hs, Hs⟩ := hrel
        have hx2 : bits BinOp.xor IntKind.u32 ((s : Int) / 2) 3988292384 = ((s / 2 ^^^ 3988292384 : Nat) : Int) := xor_u32 (s / 2) 3988292384 (by omega) (by omega)
        have hxl : s / 2 ^^^ 3988292384 < 4294967296 := Nat.xor_lt_two_pow (n := 32) (by omega) (by omega)
        have hn2 : Hid (c1 s = cn (j + 1) T) := hid (by rw [cn_add, ← Hs.out]; rfl)
        by_cases hcon2 : j < 8
        · rcases Nat.mod_two_eq_zero_or_one s with h2 | h2
          · have hc1 : Hid (s / 2 = cn (j + 1) T) := hid (by rw [← hn2.out]; unfold c1; rw [h2, if_neg (by omega), Nat.xor_zero])
            have ha : (s : Int) % 2 = 0 := by omega
            clear h2 hx2 hxl hn2
            go_wp2
            go_round
            case rel => exact ⟨j + 1, s / 2, by omega, by go_num, by simp, by omega, hc1⟩
            case measure => simp [intOf]; omega
          · have hc1 : Hid (s / 2 ^^^ 3988292384 = cn (j + 1) T) := hid (by rw [← hn2.out]; unfold c1; rw [h2, if_pos rfl])
            have ha : (s : Int) % 2 = 1 := by omega
            generalize s / 2 ^^^ 3988292384 = y at *
            clear h2 hn2
            go_wp2
            go_round
            case rel => exact ⟨j + 1, y, by omega, by go_num, rfl, hxl, hc1⟩
            case measure => simp [intOf]; omega
        · obtain rfl : j = 8 := by omega
          have hfin : Hid (s = (xs.take (k + 1)).foldl cb 4294967295) := hid (by rw [hnext.out, hT.out, Hs.out])
          clear hx2 hxl hn2
          go_wp2
          go_round
          case rel => exact ⟨k + 1, s, by omega, by go_num, rfl, hs, hfin⟩
          case measure => simp [intOf]; omega
    · obtain rfl : k = n := by omega
      have ht2 : t = xs.foldl cb 4294967295 := by rw [He.out, List.take_of_length_le (by rw [H.out.len]; exact Nat.le_refl _)]
      obtain ⟨z, hz⟩ : ∃ z, z = crc xs := ⟨_, rfl⟩
      have hx : bits BinOp.xor IntKind.u32 (t : Int) 4294967295 = (z : Int) := by
        rw [hz, hc.out, ← ht2]
        exact u32_xor_nat _ 4294967295 ht (by omega)
      have Hz := hid hz
      clear hc ht2 hz
      go_wp2
      go_ret
      exact ⟨by rw [← Hz.out]; rfl, rfl⟩

set_option maxHeartbeats 3200000 in
theorem RFramed_any {w : World} {n c : Nat} {A : Option Addr} {kind : Nat} {xs : List Nat} (h : By w w.heap.size A n c xs) (hk : kind < 256) (hn : n ≤ 4096) :
    Calls Try.prog 20 #[.int .u8 (kind : Int), .slice A n c] w fun e w' => ∃ v, e = .returned v ∧ Hid (Ow w' w.heap.size v (frm kind xs)) ∧ Hid (Below w.heap.size w w') := by
  have hcap := h.cap
  have hlen := h.len
  have hyl := hd_lt (kind := kind) (xs := xs) hk (by omega)
  obtain ⟨y1, hy1⟩ : ∃ y1, y1 = xs.length / 256 := ⟨_, rfl⟩
  obtain ⟨y2, hy2⟩ : ∃ y2, y2 = xs.length % 256 := ⟨_, rfl⟩
  have hv1 : (n : Int) / 256 = (y1 : Int) := by omega
  have hv2 : (n : Int) % 256 = (y2 : Int) := by omega
  have hy1l : (y1 : Int) < 256 := by omega
  have hy2l : (y2 : Int) < 256 := by omega
  have Hhd : Hid ([72, 1, kind, y1, y2] = hd kind xs) := hid (by rw [hy1, hy2]; rfl)
  rw [← Hhd.out] at hyl
  have HO1 : Hid (Ow (w.alloc (.cells (vals [72, 1, kind, y1, y2]).toArray 5)) w.heap.size (.slice (some ⟨w.heap.size, 0, none⟩) 5 5) [72, 1, kind, y1, y2]) :=
    hid ⟨⟨rfl, .inr ⟨w.heap.size, 5, _, rfl, Nat.le_refl _, heap_alloc_new w _, Nat.le_refl _, by unfold maxLen; omega, rfl, rfl⟩⟩, hyl, by simp⟩
  have HB1 := hid ((Below.refl w.heap.size w).alloc (Nat.le_refl _) (.cells (vals [72, 1, kind, y1, y2]).toArray 5))
  have HX := hid (h.below HB1.out)
  have Hlen := hid hlen
  obtain ⟨zs, hzs⟩ : ∃ zs, hd kind xs ++ xs = zs := ⟨_, rfl⟩
  obtain ⟨l, hl⟩ : ∃ l, zs.length = l := ⟨_, rfl⟩
  have hl2 : l ≤ 5000 := by rw [← hl, ← hzs, List.length_append, Hlen.out]; simp [hd]; omega
  have Hzs : Hid ([72, 1, kind, y1, y2] ++ xs = zs) := hid (by rw [← hzs, Hhd.out])
  have Hz2 : Hid (hd kind xs ++ xs = zs) := hid hzs
  have Hl := hid hl
  obtain ⟨s, hs⟩ : ∃ s, s = crc zs := ⟨_, rfl⟩
  have Hs := hid hs
  obtain ⟨q1, hq1⟩ : ∃ q, q = s % 256 := ⟨_, rfl⟩
  obtain ⟨q2, hq2⟩ : ∃ q, q = s / 256 % 256 := ⟨_, rfl⟩
  obtain ⟨q3, hq3⟩ : ∃ q, q = s / 65536 % 256 := ⟨_, rfl⟩
  obtain ⟨q4, hq4⟩ : ∃ q, q = s / 16777216 % 256 := ⟨_, rfl⟩
  have hb : bys s 4 = [q1, q2, q3, q4] := by
    simp only [bys, Nat.div_div_eq_div_mul]
    rw [hq1, hq2, hq3, hq4]
  have Hb := hid hb
  have hu1 : (s : Int) % 256 = (q1 : Int) := by omega
  have hu2 : (s : Int) / 256 % 256 = (q2 : Int) := by omega
  have hu3 : (s : Int) / 65536 % 256 = (q3 : Int) := by omega
  have hu4 : (s : Int) / 16777216 % 256 = (q4 : Int) := by omega
  have hql : ∀ x ∈ [q1, q2, q3, q4], x < 256 := by
    intro x hx
    simp at hx
    rcases hx with h | h | h | h <;> omega
  have hql4 : q4 < 256 := by omega
  have Hql := hid hql
  clear h hlen hy1 hy2 hyl hzs hl hs hq1 hq2 hq3 hq4 hb hql
  go_enter Try.func20, Try.ntmps20
  go_wp2_with (first
    | (at_builtin; refine app_bytes rfl (.tmp 16) (.tmp 17) rfl rfl rfl HO1.out (by simp) HX.out (by simp; omega) ?_; intro v2 w2 hO2 hb2; have hO3 := hO2.out; rw [Hzs.out] at hO3; have hsh := hO3.shape; rw [Hl.out] at hsh; obtain ⟨A2, c2, rfl, hY2⟩ := hsh; have HY2 := hid hY2; have HO3 := hid hO3; clear hY2 hO3 hO2; have Hs3 := hid (Nat.le_trans HB1.out.size hb2.out.size))
    | (go_at_call 14; with_reducible refine (RSum_any HY2.out).mono ?_; rw [← Hs.out]; rintro e w3 ⟨rfl, rfl⟩; have HN := hid (By.new w2 [q1, q2, q3, q4] Hql.out (by simp)); have HAl := hid ((Below.refl w2.heap.size w2).alloc (Nat.le_refl _) (.cells (vals [q1, q2, q3, q4]).toArray 5)); have HO4 := hid (HO3.out.below HAl.out (Nat.le_refl _)))
    | (at_builtin; refine app_bytes rfl (.tmp 21) (.tmp 33) rfl rfl rfl HO4.out (Nat.le_trans Hs3.out HAl.out.size) HN.out (by rw [Hl.out]; simp; omega) ?_; intro v4 w4 hO5 hb4)
    | fail)
  go_ret
  refine ⟨_, rfl, hid ?_, hid ((HB1.out.trans hb2.out).trans ((HAl.out.mono Hs3.out).trans hb4.out))⟩
  unfold frm
  rw [Hz2.out, ← Hs.out, Hb.out]
  exact hO5.out

set_option maxHeartbeats 1600000 in
theorem RPut_many {w : World} {n c : Nat} {A : Option Addr} {kind : Nat} (hn : 4096 < n) :
    Calls Try.prog 12 #[.int .u8 (kind : Int), .slice A n c] w fun e w' => e = .returned (.tuple #[.slice none 0 0, .int .i64 4]) ∧ w = w' := by
  go_enter Try.func12, Try.ntmps12
  go_wp2
  go_ret2
  exact ⟨rfl, rfl⟩

set_option maxHeartbeats 1600000 in
theorem RPut_fits {w : World} {n c : Nat} {A : Option Addr} {kind : Nat} {xs : List Nat} (h : By w w.heap.size A n c xs) (hk : kind < 256) (hn : n ≤ 4096) :
    Calls Try.prog 12 #[.int .u8 (kind : Int), .slice A n c] w fun e w' => ∃ v, e = .returned (.tuple #[v, .int .i64 0]) ∧ Hid (Ow w' w.heap.size v (frm kind xs)) ∧ Hid (Below w.heap.size w w') := by
  have C := hid (RFramed_any h hk hn)
  have hmax := h.max
  clear h
  go_enter Try.func12, Try.ntmps12
  go_wp2_with fail
  refine C.out.mono ?_
  rintro e w' ⟨v, rfl, hO, hb⟩
  go_wp2
  go_ret2
  exact ⟨_, rfl, hO, hb⟩

end Go.Proofs.Ytiablmnaincciaa
