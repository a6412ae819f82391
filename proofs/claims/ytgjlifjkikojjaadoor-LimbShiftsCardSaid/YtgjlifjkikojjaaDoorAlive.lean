/- Contracts of the law's own helpers: great, is, alive. -/
import Derived.Test.YtgjlifjkikojjaaDoorDiv
import Derived.Test.YtgjlifjkikojjaaDoorMul
import Derived.Test.YtgjlifjkikojjaaDoorLow
namespace Go.Proofs.YtgjlifjkikojjaaDoor
open Go.RowKit

/-- The slice value v reads as the number V. -/
def Val (w : World) (V : Nat) (v : Value) : Prop := ∃ A k c f, v = .slice A k c ∧ Rd w w.heap.size A k c f ∧ Fit k f ∧ vl f k = V
theorem Num.val {t : TypeId} {B V : Nat} {w : World} {v : Value} (h : Num t B w V v) : Val w V v := by
  obtain ⟨A, k, c, f, hv, hm, hf, hV⟩ := h
  exact ⟨A, k, c, f, hv, hm.rd, hf, hV⟩
theorem Val.below {w w' : World} {V : Nat} {v : Value} (h : Val w V v) (hb : Below w.heap.size w w') : Val w' V v := by
  obtain ⟨A, k, c, f, hv, hr, hf, hV⟩ := h
  exact ⟨A, k, c, f, hv, (hr.below hb).mono hb.size, hf, hV⟩
theorem Rd.val {w : World} {B n c : Nat} {A : Option Addr} {f : Nat → Nat} (h : Rd w B A n c f) (hB : B ≤ w.heap.size) (hf : Fit n f) : Val w (vl f n) (.slice A n c) := ⟨A, n, c, f, rfl, h.mono hB, hf, rfl⟩
theorem Val.lt {w : World} {V : Nat} {v : Value} (h : Val w V v) : V < pw 40 := by
  obtain ⟨A, k, c, f, _, hr, hf, rfl⟩ := h
  exact vl_pw40 hr hf

theorem of_int (x : Int) (h0 : 0 ≤ x) (h1 : x ≤ 18446744073709551615) (w : World) :
    Calls Tryd.prog 9 #[.int .u64 x] w (Lone 23 w x.toNat) := by
  obtain ⟨y, rfl⟩ := Int.eq_ofNat_of_zero_le h0
  rw [Int.toNat_natCast]
  exact of_any y (by omega) w

theorem great_any (A : Option Addr) (n c : Nat) (w : World) (_hn : n ≤ 140737488355328) :
    Calls Tryd.prog 21 #[.slice A n c] w fun e w' => e = .returned (.bool (decide ((42 : Int) < (n : Int)))) ∧ w = w' := by
  go_enter Tryd.func21, Tryd.ntmps21
  go_wp2
  go_ret
  exact ⟨rfl, rfl⟩

theorem Rd.same {w : World} {B C : Nat} {A D : Option Addr} {n c m d : Nat} {f h : Nat → Nat} (ha : Rd w B A n c f) (hb : Rd w C D m d h) (h1 : 0 < n → f (n - 1) ≠ 0) (h2 : 0 < m → h (m - 1) ≠ 0) (hv : vl f n = vl h m) : n = m ∧ ∀ j, f j = h j :=
  same_of_vl ha.lt hb.lt ha.out hb.out h1 h2 hv

theorem is_true {A D : Option Addr} {n c m d B C : Nat} {f h : Nat → Nat} {w : World} (ha : Rd w B A n c f) (hb : Rd w C D m d h) (h1 : 0 < n → f (n - 1) ≠ 0) (h2 : 0 < m → h (m - 1) ≠ 0) (hv : vl f n = vl h m) :
    Calls Tryd.prog 19 #[.slice A n c, .int .i64 0, .slice D m d] w fun e w' => e = .returned (.bool true) ∧ Below w.heap.size w w' := by
  have hs := ha.same hb h1 h2 hv
  have Cs := hid (same_any ha hb)
  have Hs := hid hs
  clear ha hb h1 h2 hv hs
  go_enter Tryd.func19, Tryd.ntmps19
  go_wp2_with fail
  refine Cs.out.mono ?_
  rintro e w' ⟨r, rfl, hr, q, rfl⟩
  obtain rfl : r = true := hr.2 Hs.out
  clear hr
  go_wp2
  go_ret
  exact ⟨rfl, below_drewN (Below.refl _ _) q⟩

theorem Blk.one (w : World) (e : TypeId) (a : Nat) : Blk (w.alloc (.cells #[.int .u32 (a : Int)] e)) e w.heap.size 1 (fun j => if j = 0 then a else 0) := by
  refine ⟨_, heap_alloc_new w _, rfl, fun j hj => ?_⟩
  obtain rfl : j = 0 := by omega
  rfl

/-- 'is', asked of a number and one limb. -/
theorem is_one {t : TypeId} {B a : Nat} {w : World} {v : Value} (hn : Num t B w a v) (ha : 0 < a) (hl : a < 4294967296) :
    Calls Tryd.prog 19 #[v, .int .i64 0, .slice (some ⟨w.heap.size, 0, none⟩) 1 1] (w.alloc (.cells #[.int .u32 (a : Int)] 23)) fun e w' => e = .returned (.bool true) ∧ Below w.heap.size w w' := by
  have bel : Below w.heap.size w (w.alloc (.cells #[.int .u32 (a : Int)] 23)) := (Below.refl w.heap.size w).alloc (Nat.le_refl _) _
  obtain ⟨A, k, c, f, rfl, hr, hf, hV⟩ := hn.val
  have hb := (Blk.one w 23 a).rd (B := w.heap.size + 1) (by omega) (by omega) (fun j => by
    show (if j = 0 then a else 0) < _
    split <;> omega) (fun j hj => if_neg (by omega))
  refine (is_true (hr.below bel) hb hf.2 (fun _ => by show (if 1 - 1 = 0 then a else 0) ≠ 0; simp; omega) (by rw [hV]; simp [vl, pw])).mono ?_
  rintro e w' ⟨he, hbel⟩
  exact ⟨he, bel.trans (hbel.mono (by simp))⟩

/-- 'is', asked of a number and two limbs. -/
theorem is_two {t : TypeId} {B a b : Nat} {w : World} {v : Value} (hn : Num t B w (a + b * 4294967296) v) (hb0 : 0 < b) (ha : a < 4294967296) (hb : b < 4294967296) :
    Calls Tryd.prog 19 #[v, .int .i64 0, .slice (some ⟨w.heap.size, 0, none⟩) 2 2] (w.alloc (.cells #[.int .u32 (a : Int), .int .u32 (b : Int)] 23)) fun e w' => e = .returned (.bool true) ∧ Below w.heap.size w w' := by
  have bel : Below w.heap.size w (w.alloc (.cells #[.int .u32 (a : Int), .int .u32 (b : Int)] 23)) := (Below.refl w.heap.size w).alloc (Nat.le_refl _) _
  obtain ⟨A, k, c, f, rfl, hr, hf, hV⟩ := hn.val
  have hb := (Blk.two w 23 a b).rd (B := w.heap.size + 1) (by omega) (by omega) (fun j => by
    show (if j = 0 then a else if j = 1 then b else 0) < _
    split
    · omega
    · split <;> omega) (fun j hj => by show (if j = 0 then a else if j = 1 then b else 0) = 0; rw [if_neg (by omega), if_neg (by omega)])
  refine (is_true (hr.below bel) hb hf.2 (fun _ => by show (if 2 - 1 = 0 then a else if 2 - 1 = 1 then b else 0) ≠ 0; simp; omega) (by rw [hV]; simp [vl, pw])).mono ?_
  rintro e w' ⟨he, hbel⟩
  exact ⟨he, bel.trans (hbel.mono (by simp))⟩

theorem low_12 {k : Nat} (h : LowOf 12 k) : k = 2 := by
  rcases h with ⟨h, _⟩ | ⟨m, h⟩
  · omega
  · match k, h with
    | 0, h => simp at h; omega
    | 1, h => simp at h; omega
    | 2, _ => rfl
    | k + 3, h =>
      exfalso
      rw [Nat.pow_add, Nat.mul_comm (2 ^ k), Nat.mul_assoc] at h
      generalize 2 ^ k * (2 * m + 1) = x at h
      omega
theorem size_12 : Size 12 4 := ⟨by decide, fun _ => by decide⟩

/-- Limbs and OK are handed back. -/
def Fine (w : World) (V : Nat) (e : Ending) (w' : World) : Prop := ∃ v, e = .returned (.tuple #[v, .int .i64 0]) ∧ Num 23 w.heap.size w' V v ∧ Below w.heap.size w w'

theorem Ans.fine {w w' : World} {er : Int} {V : Nat} {e : Ending} (h : Ans 23 w er V e w') (he : er = 0) : Fine w V e w' := by
  obtain ⟨hb, v, rfl, hg, _⟩ := h
  subst he
  exact ⟨v, rfl, hg rfl, hb⟩

section
variable {V U : Nat} {w : World} {v1 v2 : Value}
theorem sub_ok (h1 : Val w V v1) (h2 : Val w U v2) (h : U ≤ V) : Calls Tryd.prog 13 #[v1, v2] w (Fine w (V - U)) := by
  obtain ⟨A, k, c, f, rfl, hr, hf, rfl⟩ := h1
  obtain ⟨D, m, d, g, rfl, hs, hg, rfl⟩ := h2
  refine (sub_any hr hs).mono fun e w' hA => hA.fine ?_
  unfold subErr
  rw [if_pos ⟨hf, hg⟩, if_neg (by omega)]
theorem add_ok (h1 : Val w V v1) (h2 : Val w U v2) (h : V + U < pw 40) : Calls Tryd.prog 8 #[v1, v2] w (Fine w (V + U)) := by
  obtain ⟨A, k, c, f, rfl, hr, hf, rfl⟩ := h1
  obtain ⟨D, m, d, g, rfl, hs, hg, rfl⟩ := h2
  refine (add_any hr hs).mono fun e w' hA => hA.fine ?_
  unfold addErr overErr
  rw [if_pos ⟨hf, hg⟩, if_pos h]
theorem mul_ok (h1 : Val w V v1) (h2 : Val w U v2) (h : V * U < pw 40) : Calls Tryd.prog 10 #[v1, v2] w (Fine w (V * U)) := by
  obtain ⟨A, k, c, f, rfl, hr, hf, rfl⟩ := h1
  obtain ⟨D, m, d, g, rfl, hs, hg, rfl⟩ := h2
  refine (mul_any hr hs).mono fun e w' hA => hA.fine ?_
  unfold mulErr overErr
  rw [if_pos ⟨hf, hg⟩, if_pos h]
theorem div_ok (h1 : Val w V v1) (h2 : Val w U v2) (h : 0 < U) : Calls Tryd.prog 14 #[v1, v2] w fun e w' => ∃ q r, e = .returned (.tuple #[q, r, .int .i64 0]) ∧ Num 23 w.heap.size w' (V / U) q ∧ Num 23 w.heap.size w' (V % U) r ∧ Below w.heap.size w w' := by
  obtain ⟨A, k, c, f, rfl, hr, hf, rfl⟩ := h1
  obtain ⟨D, m, d, g, rfl, hs, hg, rfl⟩ := h2
  have hm : m ≠ 0 := by
    rintro rfl
    simp [vl] at h
  have he : divErr k f m g = 0 := by
    unfold divErr
    rw [if_pos ⟨hf, hg⟩, if_neg hm]
  refine (div_any hr hs).mono ?_
  rintro e w' ⟨hb, q, r, rfl, hgood, _⟩
  rw [he] at hgood ⊢
  exact ⟨q, r, rfl, (hgood rfl).1, (hgood rfl).2, hb⟩
theorem low_num (h1 : Val w V v1) (hT : Tab w) : Calls Tryd.prog 17 #[v1] w fun e w' => ∃ k : Nat, e = .returned (.tuple #[.int .i64 (k : Int), .int .i64 0]) ∧ LowOf V k ∧ Below w.heap.size w w' := by
  obtain ⟨A, k, c, f, rfl, hr, hf, rfl⟩ := h1
  refine (Low_any hr hT).mono ?_
  rintro e w' ⟨hb, k, rfl, hgood, _⟩
  rw [chk_fit hf]
  exact ⟨k, rfl, hgood hf, hb⟩
theorem bits_num (h1 : Val w V v1) : Calls Tryd.prog 16 #[v1] w fun e w' => ∃ s : Nat, e = .returned (.tuple #[.int .i64 (s : Int), .int .i64 0]) ∧ Size V s ∧ Below w.heap.size w w' := by
  obtain ⟨A, k, c, f, rfl, hr, hf, rfl⟩ := h1
  refine (Bits_any hr).mono ?_
  rintro e w' ⟨hb, s, rfl, hgood, _⟩
  rw [chk_fit hf]
  exact ⟨s, rfl, hgood hf, hb⟩
theorem cmp_val (h1 : Val w V v1) (h2 : Val w U v2) : Calls Tryd.prog 15 #[v1, v2] w fun e w' => e = .returned (.tuple #[.int .i64 (cmpN V U), .int .i64 0]) ∧ Below w.heap.size w w' := by
  obtain ⟨A, k, c, f, rfl, hr, hf, rfl⟩ := h1
  obtain ⟨D, m, d, g, rfl, hs, hg, rfl⟩ := h2
  refine (cmp_any hr hs).mono ?_
  rintro e w' ⟨rfl, hb⟩
  rw [show cmpErr k f m g = 0 from if_pos ⟨hf, hg⟩, show cmpRes k f m g = cmpN (vl f k) (vl g m) from if_pos ⟨hf, hg⟩]
  exact ⟨rfl, hb⟩
theorem same_val (h1 : Val w V v1) (h2 : Val w U v2) : Calls Tryd.prog 28 #[v1, v2] w fun e w' => e = .returned (.bool (decide (V = U))) ∧ Below w.heap.size w w' := by
  obtain ⟨A, k, c, f, rfl, hr, hf, rfl⟩ := h1
  obtain ⟨D, m, d, g, rfl, hs, hg, rfl⟩ := h2
  refine (same_any hr hs).mono ?_
  rintro e w' ⟨b, rfl, hbb, q, rfl⟩
  refine ⟨?_, below_drewN (Below.refl _ _) q⟩
  have : b = decide (vl f k = vl g m) := by
    rw [Bool.eq_iff_iff, hbb, decide_eq_true_iff]
    constructor
    · rintro ⟨rfl, hj⟩
      exact vl_congr fun j _ => hj j
    · intro hv
      exact hr.same hs hf.2 hg.2 hv
  rw [this]
end

/-- The law's first step: the chapter's examples hold. -/
def Alive (w : World) (e : Ending) (w' : World) : Prop := e = .returned (.bool true) ∧ Below w.heap.size w w'

set_option maxHeartbeats 3200000 in
theorem alive_any {w : World} (hT : Tab w) : Calls Tryd.prog 18 #[] w (Alive w) := by
  have HT := hid hT
  clear hT
  go_enter Tryd.func18, Tryd.ntmps18
  go_wp2_with fail
  refine (of_int _ (by omega) (by omega) _).mono ?_
  rintro e w1 ⟨v1, rfl, hn1, hb1⟩
  have N1 := hid hn1
  have B1 := hid hb1
  clear hn1 hb1
  go_wp2_with fail
  refine (of_int _ (by omega) (by omega) _).mono ?_
  rintro e w2 ⟨v2, rfl, hn2, hb2⟩
  have N1 := hid (N1.out.below hb2 (Nat.le_refl _))
  have N2 := hid hn2
  have B2 := hid (B1.out.trans (hb2.mono B1.out.size))
  clear hn2 hb2 B1
  go_wp2_with fail
  refine (sub_ok N1.out.val N2.out.val (by decide)).mono ?_
  rintro e w3 ⟨v3, rfl, hn3, hb3⟩
  have N1 := hid (N1.out.below hb3 (Nat.le_refl _))
  have N3 := hid hn3
  have B3 := hid (B2.out.trans (hb3.mono B2.out.size))
  clear hn3 hb3 B2 N2
  go_wp2_with fail
  refine (of_int _ (by omega) (by omega) _).mono ?_
  rintro e w4 ⟨v4, rfl, hn4, hb4⟩
  have N1 := hid (N1.out.below hb4 (Nat.le_refl _))
  have N3 := hid (N3.out.below hb4 (Nat.le_refl _))
  have N4 := hid hn4
  have B4 := hid (B3.out.trans (hb4.mono B3.out.size))
  clear hn4 hb4 B3
  go_wp2_with fail
  refine (of_int _ (by omega) (by omega) _).mono ?_
  rintro e w5 ⟨v5, rfl, hn5, hb5⟩
  have N1 := hid (N1.out.below hb5 (Nat.le_refl _))
  have N3 := hid (N3.out.below hb5 (Nat.le_refl _))
  have N4 := hid (N4.out.below hb5 (Nat.le_refl _))
  have N5 := hid hn5
  have B5 := hid (B4.out.trans (hb5.mono B4.out.size))
  clear hn5 hb5 B4
  go_wp2_with fail
  refine (div_ok N4.out.val N5.out.val (by decide)).mono ?_
  rintro e w6 ⟨v6, v7, rfl, hn6, hn7, hb6⟩
  have N1 := hid (N1.out.below hb6 (Nat.le_refl _))
  have N3 := hid (N3.out.below hb6 (Nat.le_refl _))
  have N6 := hid hn6
  have N7 := hid hn7
  have B6 := hid (B5.out.trans (hb6.mono B5.out.size))
  clear hn6 hn7 hb6 B5 N4 N5
  go_wp2_with fail
  refine (of_int _ (by omega) (by omega) _).mono ?_
  rintro e w7 ⟨v8, rfl, hn8, hb7⟩
  have N1 := hid (N1.out.below hb7 (Nat.le_refl _))
  have N3 := hid (N3.out.below hb7 (Nat.le_refl _))
  have N6 := hid (N6.out.below hb7 (Nat.le_refl _))
  have N7 := hid (N7.out.below hb7 (Nat.le_refl _))
  have N8 := hid hn8
  have B7 := hid (B6.out.trans (hb7.mono B6.out.size))
  clear hn8 hb7 B6
  go_wp2_with fail
  refine (low_num N8.out.val (HT.out.below B7.out HT.out.lt)).mono ?_
  rintro e w8 ⟨k, rfl, hk, hb8⟩
  obtain rfl := low_12 hk
  have N1 := hid (N1.out.below hb8 (Nat.le_refl _))
  have N3 := hid (N3.out.below hb8 (Nat.le_refl _))
  have N6 := hid (N6.out.below hb8 (Nat.le_refl _))
  have N7 := hid (N7.out.below hb8 (Nat.le_refl _))
  have B8 := hid (B7.out.trans (hb8.mono B7.out.size))
  clear hk hb8 B7 N8
  go_wp2_with fail
  refine (of_int _ (by omega) (by omega) _).mono ?_
  rintro e w9 ⟨v9, rfl, hn9, hb9⟩
  have N1 := hid (N1.out.below hb9 (Nat.le_refl _))
  have N3 := hid (N3.out.below hb9 (Nat.le_refl _))
  have N6 := hid (N6.out.below hb9 (Nat.le_refl _))
  have N7 := hid (N7.out.below hb9 (Nat.le_refl _))
  have N9 := hid hn9
  have B9 := hid (B8.out.trans (hb9.mono B8.out.size))
  clear hn9 hb9 B8
  go_wp2_with fail
  refine (bits_num N9.out.val).mono ?_
  rintro e w10 ⟨s, rfl, hs, hb10⟩
  obtain rfl := hs.uniq size_12
  have N1 := hid (N1.out.below hb10 (Nat.le_refl _))
  have N3 := hid (N3.out.below hb10 (Nat.le_refl _))
  have N6 := hid (N6.out.below hb10 (Nat.le_refl _))
  have N7 := hid (N7.out.below hb10 (Nat.le_refl _))
  have B10 := hid (B9.out.trans (hb10.mono B9.out.size))
  clear hs hb10 B9 N9
  go_wp2_with fail
  refine (is_two (a := 0) (b := 1) N1.out (by omega) (by omega) (by omega)).mono ?_
  rintro e w11 ⟨rfl, hb11⟩
  have N3 := hid (N3.out.below hb11 (Nat.le_refl _))
  have N6 := hid (N6.out.below hb11 (Nat.le_refl _))
  have N7 := hid (N7.out.below hb11 (Nat.le_refl _))
  have B11 := hid (B10.out.trans (hb11.mono B10.out.size))
  clear hb11 B10 N1
  go_wp2_with fail
  refine (is_one (a := 4294967295) N3.out (by omega) (by omega)).mono ?_
  rintro e w12 ⟨rfl, hb12⟩
  have N6 := hid (N6.out.below hb12 (Nat.le_refl _))
  have N7 := hid (N7.out.below hb12 (Nat.le_refl _))
  have B12 := hid (B11.out.trans (hb12.mono B11.out.size))
  clear hb12 B11 N3
  go_wp2_with fail
  refine (is_one (a := 3) N6.out (by omega) (by omega)).mono ?_
  rintro e w13 ⟨rfl, hb13⟩
  have N7 := hid (N7.out.below hb13 (Nat.le_refl _))
  have B13 := hid (B12.out.trans (hb13.mono B12.out.size))
  clear hb13 B12 N6
  go_wp2_with fail
  refine (is_one (a := 1) N7.out (by omega) (by omega)).mono ?_
  rintro e w14 ⟨rfl, hb14⟩
  have B14 := hid (B13.out.trans (hb14.mono B13.out.size))
  clear hb14 B13 N7
  go_wp2
  go_ret
  exact ⟨rfl, B14.out⟩

end Go.Proofs.YtgjlifjkikojjaaDoor
