/- Package frame: sums. -/
/- Package frame: rows of bytes; putSum, takeSum. -/
/- Package frame: takeSum, fault, Take; Put. -/
/- Package frame: Clone, Take; Put. -/
/- Package frame: Put. -/
/- The document's sums, frames, and what is taken. -/
/- Bytes as strings; the chapter's examples. -/
/- Frames as lists of bytes: what was framed is taken, and what is taken was framed so. No code is walked here. -/
/- Bytes of a row of the call's own are written; what a written byte does to a text's number. -/
/- Package field: what is put. -/
import Derived.Test.YtbankbehfjogpaaGreatVaa
import Derived.Test.YtbankbehfjogpaaGreatVae
import Derived.Test.YtbankbehfjogpaaGreatChecked
import Derived.RegionTactic
import Derived.IntWalk
import Derived.Laws.BitsAllLaws
import Derived.Test.YtbankbehfjogpaaGreatVab
import Derived.Laws.BytesArg
import Derived.Lib.SlBytesConst
namespace Go.Proofs.YtbankbehfjogpaaGreat
set_option maxRecDepth 100000
open Go.RowKit
structure By (w : World) (B : Nat) (A : Option Addr) (n c : Nat) (xs : List Nat) : Prop where
  len : xs.length = n
  cap : n ≤ c
  max : n ≤ 140737488355328
  lt : ∀ x ∈ xs, x < 256
  nil : A = none → n = 0 ∧ c = 0
  at_ : 0 < n → ∃ b off, A = some ⟨b, off, none⟩ ∧ b < B ∧ ∀ (j x : Nat), xs[j]? = some x → w.cell? ⟨b, off + j, none⟩ = some (.int .u8 (x : Int))
section
variable {w w' : World} {B n c : Nat} {A : Option Addr} {xs : List Nat}
theorem By.below (h : By w B A n c xs) (hb : Below B w w') : By w' B A n c xs :=
  ⟨h.len, h.cap, h.max, h.lt, h.nil, fun hn => by
    obtain ⟨b, off, rfl, hB, hc⟩ := h.at_ hn
    exact ⟨b, off, rfl, hB, fun j x hj => (hb.cell (p := ⟨b, off + j, none⟩) hB).trans (hc j x hj)⟩⟩
theorem By.mono {B' : Nat} (h : By w B A n c xs) (hb : B ≤ B') : By w B' A n c xs :=
  ⟨h.len, h.cap, h.max, h.lt, h.nil, fun hn => by
    obtain ⟨b, off, rfl, hB, hc⟩ := h.at_ hn
    exact ⟨b, off, rfl, by omega, hc⟩⟩
end
theorem xor_u32 (s x : Nat) (hs : s < 4294967296) (hx : x < 4294967296) : bits BinOp.xor IntKind.u32 (s : Int) (x : Int) = ((s ^^^ x : Nat) : Int) := u32_xor_nat s x hs hx
set_option maxHeartbeats 1600000 in
theorem with_any (s x : Nat) (hs : s < 4294967296) (hx : x < 256) (w : World) :
    Calls Tryz.prog 94 #[.int .u32 (s : Int), .int .u8 (x : Int)] w fun e w' => e = .returned (.int .u32 (cb s x : Int)) ∧ w = w' := by
  have h1 := xor_u32 s x hs (by omega)
  obtain ⟨T, hT⟩ : ∃ T, T = s ^^^ x := ⟨_, rfl⟩
  have hTl : T < 4294967296 := hT ▸ Nat.xor_lt_two_pow (n := 32) hs (by omega)
  have hcb : Hid (cb s x = cn 8 T) := hid (by rw [hT]; rfl)
  rw [← hT] at h1
  clear hT
  go_enter Tryz.func94, Tryz.ntmps94
  go_wp2
  go_loop [0, 10] (fun a i => ∃ k t : Nat, k ≤ 8 ∧ i = .int .i64 k ∧ a = .int .u32 (t : Int) ∧ t < 4294967296 ∧ Hid (t = cn k T)) (fun _ i => 8 - (intOf i).toNat)
  case atStart => exact ⟨0, T, by omega, rfl, rfl, hTl, hid rfl⟩
  case round =>
    obtain ⟨k, t, hk, rfl, rfl, ht, He⟩ := hrel
    have ha : bits BinOp.and IntKind.u32 (t : Int) 1 = ((t % 2 : Nat) : Int) := by
      rw [← Nat.and_one_is_mod]
      exact u32_and_nat t 1 ht (by omega)
    have hx2 : bits BinOp.xor IntKind.u32 ((t : Int) / 2) 3988292384 = ((t / 2 ^^^ 3988292384 : Nat) : Int) := xor_u32 (t / 2) 3988292384 (by omega) (by omega)
    have hxl : t / 2 ^^^ 3988292384 < 4294967296 := Nat.xor_lt_two_pow (n := 32) (by omega) (by omega)
    have hnext : Hid (c1 t = cn (k + 1) T) := hid (by rw [cn_add, ← He.out]; rfl)
    by_cases hcon : k < 8
    · rcases Nat.mod_two_eq_zero_or_one t with h2 | h2
      · have hc1 : Hid (t / 2 = cn (k + 1) T) := hid (by rw [← hnext.out]; unfold c1; rw [h2, if_neg (by omega), Nat.xor_zero])
        rw [h2] at ha
        clear h2 hx2 hxl hnext
        go_wp2
        go_round
        case rel => exact ⟨k + 1, t / 2, by omega, rfl, by simp, by omega, hc1⟩
        case measure => simp [intOf]; omega
      · have hc1 : Hid (t / 2 ^^^ 3988292384 = cn (k + 1) T) := hid (by rw [← hnext.out]; unfold c1; rw [h2, if_pos rfl])
        rw [h2] at ha
        generalize t / 2 ^^^ 3988292384 = y at *
        clear h2 hnext
        go_wp2
        go_round
        case rel => exact ⟨k + 1, y, by omega, rfl, rfl, hxl, hc1⟩
        case measure => simp [intOf]; omega
    · obtain rfl : k = 8 := by omega
      go_wp2
      go_ret
      exact ⟨by rw [hcb.out, ← He.out]; rfl, rfl⟩
theorem take_fold {xs : List Nat} {k x s : Nat} (h : xs[k]? = some x) : (xs.take (k + 1)).foldl cb s = cb ((xs.take k).foldl cb s) x := by
  rw [List.take_add_one, h, List.foldl_append]
  rfl
set_option maxHeartbeats 1600000 in
theorem goOn_any {w : World} {B n c : Nat} {A : Option Addr} {xs : List Nat} (h : By w B A n c xs) (s : Nat) (hs : s < 4294967296) :
    Calls Tryz.prog 93 #[.int .u32 (s : Int), .slice A n c, .func (.func 94) #[] #[]] w fun e w' => e = .returned (.int .u32 ((xs.foldl cb s : Nat) : Int)) ∧ w = w' := by
  have H := hid h
  have hm := h.max
  have hcap := h.cap
  clear h
  go_enter Tryz.func93, Tryz.ntmps93
  go_wp2
  go_loop [0, 8, 11] (fun a _ i => ∃ k t : Nat, k ≤ n ∧ i = .int .i64 k ∧ a = .int .u32 (t : Int) ∧ t < 4294967296 ∧ Hid (t = (xs.take k).foldl cb s)) (fun _ _ i => n - (intOf i).toNat)
  case atStart => exact ⟨0, s, by omega, rfl, rfl, hs, hid rfl⟩
  case round =>
    obtain ⟨k, t, hk, rfl, rfl, ht, He⟩ := hrel
    by_cases hcon : k < n
    · obtain ⟨b, off, rfl, _, hc⟩ := H.out.at_ (by omega)
      obtain ⟨x, hx⟩ : ∃ x, xs[k]? = some x := ⟨xs[k]'(by rw [H.out.len]; exact hcon), List.getElem?_eq_getElem _⟩
      have hcell := hc k x hx
      have hx256 := H.out.lt x (List.mem_of_getElem? hx)
      have CW := hid (with_any t x ht hx256)
      have Hx := hid hx
      have Hl := hid (cb_lt ht hx256)
      clear hc hx hx256
      go_wp2_with fail
      refine (CW.out _).mono ?_
      rintro e w' ⟨rfl, rfl⟩
      go_wp2
      go_round
      case rel => exact ⟨k + 1, cb t x, by omega, rfl, rfl, Hl.out, hid (by rw [take_fold Hx.out, He.out])⟩
      case measure => simp [intOf]; omega
    · obtain rfl : k = n := by omega
      go_wp2
      go_ret
      exact ⟨by rw [He.out, List.take_of_length_le (by rw [H.out.len]; exact Nat.le_refl _)]; rfl, rfl⟩
set_option maxHeartbeats 1600000 in
theorem Sum_any {w : World} {B n c : Nat} {A : Option Addr} {xs : List Nat} (h : By w B A n c xs) :
    Calls Tryz.prog 55 #[.slice A n c] w fun e w' => e = .returned (.int .u32 (crc xs : Int)) ∧ w = w' := by
  have C := hid (goOn_any h 4294967295 (by omega))
  have hf := fold_lt xs 4294967295 h.lt (by omega)
  have hc : Hid (crc xs = xs.foldl cb 4294967295 ^^^ 4294967295) := rfl
  generalize xs.foldl cb 4294967295 = t at *
  have hx : bits BinOp.xor IntKind.u32 IntKind.u32.max (t : Int) = ((crc xs : Nat) : Int) := by
    rw [hc.out, Nat.xor_comm]
    exact u32_xor_nat 4294967295 t (by omega) hf
  clear h hc
  go_enter Tryz.func55, Tryz.ntmps55
  go_wp2_with fail
  refine C.out.mono ?_
  rintro e w' ⟨rfl, rfl⟩
  go_wp2
  all_goals first
    | (rename_i hsg; exact absurd hsg (by decide))
    | (go_ret; exact ⟨rfl, rfl⟩)
open Go.RowKit
def vals (xs : List Nat) : List Value := xs.map fun x : Nat => Value.int .u8 (x : Int)
theorem vals_length (xs : List Nat) : (vals xs).length = xs.length := by simp [vals]
theorem vals_append (xs ys : List Nat) : vals (xs ++ ys) = vals xs ++ vals ys := by simp [vals]
theorem vals_at {xs : List Nat} {j x : Nat} (h : xs[j]? = some x) : (vals xs)[j]? = some (.int .u8 (x : Int)) := by simp [vals, h]
theorem vals_one {xs : List Nat} {u : Value} (h : u ∈ vals xs) : u.oneCell' = true := by
  simp [vals] at h
  obtain ⟨_, _, rfl⟩ := h
  rfl
def Ow (w : World) (B : Nat) (v : Value) (xs : List Nat) : Prop := w.ownsRow B 5 1 v xs.length (vals xs) ∧ (∀ x ∈ xs, x < 256) ∧ xs.length ≤ 140737488355328
theorem Ow.below {w w' : World} {B B' : Nat} {v : Value} {xs : List Nat} (h : Ow w B v xs) (hb : Below B' w w') (hB : w.heap.size ≤ B') : Ow w' B v xs := by
  refine ⟨?_, h.2⟩
  obtain ⟨⟨hl, hor⟩, -⟩ := h
  refine ⟨hl, ?_⟩
  rcases hor with h0 | ⟨g, cap, cur, rfl, hg, hh, hr⟩
  · exact .inl h0
  · have := lt_of_heap hh
    exact .inr ⟨g, cap, cur, rfl, hg, (hb.block g (by omega)).trans hh, hr⟩
theorem Ow.mono {w : World} {B B' : Nat} {v : Value} {xs : List Nat} (h : Ow w B v xs) (hB : B' ≤ B) : Ow w B' v xs := by
  refine ⟨?_, h.2⟩
  obtain ⟨⟨hl, hor⟩, -⟩ := h
  refine ⟨hl, ?_⟩
  rcases hor with h0 | ⟨g, cap, cur, rfl, hg, hr⟩
  · exact .inl h0
  · exact .inr ⟨g, cap, cur, rfl, by omega, hr⟩
theorem Ow.shape {w : World} {B : Nat} {v : Value} {xs : List Nat} (h : Ow w B v xs) : ∃ A c, v = .slice A xs.length c ∧ By w w.heap.size A xs.length c xs := by
  obtain ⟨⟨_, hor⟩, hlt, hmax⟩ := h
  rcases hor with ⟨rfl, h0⟩ | ⟨g, cap, cur, rfl, hg, hh, hn, hc, hs, ht⟩
  · rw [h0]
    exact ⟨none, 0, rfl, ⟨h0, Nat.le_refl _, by omega, hlt, fun _ => ⟨rfl, rfl⟩, fun h => absurd h (by omega)⟩⟩
  · refine ⟨some ⟨g, 0, none⟩, cap, rfl, ⟨rfl, hn, hmax, hlt, fun h => (by cases h), fun _ => ⟨g, 0, rfl, lt_of_heap hh, fun j x hj => ?_⟩⟩⟩
    have hjl : j < xs.length := (List.getElem?_eq_some_iff.1 hj).1
    rw [Nat.zero_add, cell_of_row w g j cur 5 (0, 0) hh, ← Array.getElem?_toList]
    have e := vals_at hj
    rw [← ht, List.getElem?_take, Nat.mul_one, if_pos hjl] at e
    exact e
theorem Ow.nil (w : World) (B : Nat) : Ow w B (.slice none 0 0) [] := ⟨⟨rfl, .inl ⟨rfl, rfl⟩⟩, by simp, by simp⟩
theorem By.cells {w : World} {B n c : Nat} {A : Option Addr} {xs : List Nat} (h : By w B A n c xs) : ∀ p, A = some p → ∀ (j : Nat) (u : Value), (vals xs)[j]? = some u → w.cell? (p.add j) = some u := by
  intro p hp j u hj
  have hjn : j < xs.length := by
    have := (List.getElem?_eq_some_iff.1 hj).1
    rwa [vals_length] at this
  obtain ⟨b, off, rfl, _, hc⟩ := h.at_ (by rw [← h.len]; omega)
  injection hp with hp
  subst hp
  have hx := List.getElem?_eq_getElem hjn
  rw [vals_at hx] at hj
  injection hj with hj
  subst hj
  have : (⟨b, off, none⟩ : Addr).add j = ⟨b, off + j, none⟩ := by unfold Addr.add; simp
  rw [this]
  exact hc j _ hx
theorem u8_info : (Tryz.prog.info? 5).map (fun i => (i.zero, i.size, i.bytes)) = some (some (.int .u8 0), 1, 1) := by kernel_rfl
theorem app_bytes {ops : Array Oper} {rest : List Oper} {o : Oper} {a : Act} {Q : Exit → Act → World → Prop} (hgd : o.guard = none) (s x : Operand)
    (ho : o.op = .call { callee := .builtin .append, args := #[s, x], argTypes := #[32, 32] }) {w : World} {B B' m c : Nat} {v : Value} {xs ys : List Nat} {A : Option Addr} (hs : a.eval s = v) (hx : a.eval x = .slice A m c)
    (hown : Ow w B v xs) (hB : B ≤ w.heap.size) (hy : By w B' A m c ys) (hn : xs.length + m ≤ 17592186044416)
    (h : ∀ v' w', Hid (Ow w' B v' (xs ++ ys)) → Hid (Below B w w') → wpList Tryz.prog ops Q rest (a.put o.dst v') w') : wpList Tryz.prog ops Q (o :: rest) a w := by
  refine wpList_append_src hgd s x 32 ho 5 (.int .u8 0) 1 (by kernel_rfl) u8_info rfl (by omega) hs hx hown.1 hB (news := vals ys) (by rw [vals_length, hy.len]) hy.nil hy.cells (fun u hu => vals_one hu) hn ?_
  intro v' w' hown' hb
  refine h v' w' (hid ⟨?_, ?_, ?_⟩) hb
  · rw [List.length_append, hy.len, vals_append]
    exact hown'.out
  · intro y hy2
    rcases List.mem_append.1 hy2 with h1 | h1
    · exact hown.2.1 y h1
    · exact hy.lt y h1
  · rw [List.length_append, hy.len]
    omega
theorem By.new (w : World) (xs : List Nat) (hlt : ∀ x ∈ xs, x < 256) (hmax : xs.length ≤ 140737488355328) : By (w.alloc (.cells (vals xs).toArray 5)) (w.heap.size + 1) (some ⟨w.heap.size, 0, none⟩) xs.length xs.length xs :=
  ⟨rfl, Nat.le_refl _, hmax, hlt, fun h => (by cases h), fun _ => ⟨w.heap.size, 0, rfl, Nat.lt_succ_self _, fun j x hj => by
    rw [Nat.zero_add, cell_of_row _ w.heap.size j _ 5 (0, 0) (heap_alloc_new w _)]
    rw [List.getElem?_toArray]
    exact vals_at hj⟩⟩
theorem bys_succ (V k : Nat) : bys V (k + 1) = bys V k ++ [V / 256 ^ k % 256] := by
  induction k generalizing V with
  | zero => show [V % 256] = _; rw [Nat.pow_zero, Nat.div_one]; rfl
  | succ k ih =>
    show V % 256 :: bys (V / 256) (k + 1) = (V % 256 :: bys (V / 256) k) ++ _
    rw [ih, List.cons_append, Nat.div_div_eq_div_mul, Nat.pow_succ, Nat.mul_comm 256]
set_option maxHeartbeats 1600000 in
theorem putSum_any {w : World} {B s : Nat} {v : Value} {xs : List Nat} (h : Ow w B v xs) (hB : B ≤ w.heap.size) (hn : xs.length ≤ 1000000) :
    Calls Tryz.prog 54 #[v, .int .u32 (s : Int)] w fun e w' => ∃ v', e = .returned v' ∧ Hid (Ow w' B v' (xs ++ bys s 4)) ∧ Hid (Below B w w') := by
  have H := hid h
  clear h
  go_enter Tryz.func54, Tryz.ntmps54
  go_wp2
  go_loopw [0, 6, 5] (fun a i _ wr => ∃ k : Nat, k ≤ 4 ∧ i = .int .i64 k ∧ Hid (Ow wr B a (xs ++ bys s k)) ∧ Hid (Below B w wr)) (fun _ i _ _ => 4 - (intOf i).toNat)
  case atStart => exact ⟨0, by omega, rfl, hid (by rw [show bys s 0 = [] from rfl, List.append_nil]; exact H.out), hid (Below.refl _ _)⟩
  case round =>
    obtain ⟨k, hk, rfl, hO, hb⟩ := hrel
    by_cases hcon : k < 4
    · have hlen : (xs ++ bys s k).length + 1 ≤ 17592186044416 := by
        rw [List.length_append, bys_length]
        omega
      have hval : ((s : Int) / 2 ^ (8 * k) % 256) = ((s / 256 ^ k % 256 : Nat) : Int) := by
        rw [show (256 : Nat) ^ k = 2 ^ (8 * k) by rw [Nat.pow_mul]]
        simp
      have hy : s / 256 ^ k % 256 < 256 := Nat.mod_lt _ (by omega)
      have hnext : Hid (bys s (k + 1) = bys s k ++ [s / 256 ^ k % 256]) := hid (bys_succ s k)
      generalize s / 256 ^ k % 256 = y at *
      have HB := hid (By.new wr [y] (by simpa using hy) (by simp))
      have Hal := hid ((Below.refl wr.heap.size wr).alloc (Nat.le_refl _) (.cells (vals [y]).toArray 5))
      have HO := hid (hO.out.below Hal.out (Nat.le_refl _))
      have hsz := hb.out.size
      clear hy
      go_wp2_with (at_builtin; refine app_bytes rfl (.tmp 9) (.tmp 15) rfl rfl rfl HO.out (by simp; omega) HB.out hlen ?_; intro v' w' hO' hb')
      go_roundw
      case rel => exact ⟨k + 1, by omega, by go_num, hid (by rw [hnext.out, ← List.append_assoc]; exact hO'.out), hid ((hb.out.trans (Hal.out.mono (by omega))).trans hb'.out)⟩
      case measure => simp [intOf]; omega
    · obtain rfl : k = 4 := by omega
      go_wp2
      go_ret
      exact ⟨_, rfl, hO, hb⟩
open Go.RowKit
theorem nm_take {xs : List Nat} {k x : Nat} (h : xs[k]? = some x) : nm (xs.take (k + 1)) = nm (xs.take k) + x * 256 ^ k := by
  have hl := (List.getElem?_eq_some_iff.1 h).1
  rw [List.take_add_one, h, nm_append]
  show _ + 256 ^ (xs.take k).length * (x + 256 * 0) = _
  rw [List.length_take, Nat.min_eq_left (by omega), Nat.mul_zero, Nat.add_zero, Nat.mul_comm]
set_option maxHeartbeats 1600000 in
theorem takeSum_any {w : World} {B c : Nat} {A : Option Addr} {zs : List Nat} (h : By w B A 4 c zs) :
    Calls Tryz.prog 100 #[.slice A 4 c] w fun e w' => e = .returned (.int .u32 (nm zs : Int)) ∧ w = w' := by
  obtain ⟨b, off, rfl, _, hc⟩ := h.at_ (by omega)
  have H := hid h
  have hcap := h.cap
  clear h
  go_enter Tryz.func100, Tryz.ntmps100
  go_wp2
  go_loop [3, 4, 5] (fun a _ i => ∃ k t : Nat, k ≤ 4 ∧ i = .int .i64 k ∧ a = .int .u32 (t : Int) ∧ Hid (t = nm (zs.take k))) (fun _ _ i => 4 - (intOf i).toNat)
  case atStart => exact ⟨0, 0, by omega, rfl, rfl, hid rfl⟩
  case round =>
    obtain ⟨k, t, hk, rfl, rfl, He⟩ := hrel
    by_cases hcon : k < 4
    · obtain ⟨x, hx⟩ : ∃ x, zs[k]? = some x := ⟨zs[k]'(by rw [H.out.len]; exact hcon), List.getElem?_eq_getElem _⟩
      have hcell := hc k x hx
      have hx256 := H.out.lt x (List.mem_of_getElem? hx)
      have hl8 : 8 * k < 32 := by omega
      have ht : t < 2 ^ (8 * k) := by
        rw [He.out, Nat.pow_mul]
        have := nm_lt (xs := zs.take k) (fun y hy => H.out.lt y (List.mem_of_mem_take hy))
        rwa [List.length_take, Nat.min_eq_left (by rw [H.out.len]; omega)] at this
      have hnext : Hid (nm (zs.take (k + 1)) = t + x * 2 ^ (8 * k)) := hid (by rw [nm_take hx, He.out, Nat.pow_mul])
      have hsm : x * 2 ^ (8 * k) < 4294967296 := by
        have h1 : (2 : Nat) ^ (8 * k) ≤ 2 ^ 24 := Nat.pow_le_pow_right (by omega) (by omega)
        have h2 := Nat.mul_le_mul (show x ≤ 255 by omega) h1
        omega
      have hj : t ||| x * 2 ^ (8 * k) = t + x * 2 ^ (8 * k) := by
        rw [Nat.or_comm, nat_join (8 * k) _ _ (Nat.mul_mod_left _ _) ht, Nat.add_comm]
      have ht32 : t < 4294967296 := Nat.lt_of_lt_of_le ht (by have := Nat.pow_le_pow_right (n := 2) (by omega) (show 8 * k ≤ 32 by omega); simpa using this)
      have hor : bits BinOp.or IntKind.u32 (t : Int) ((x : Int) * 2 ^ (8 * k) % 4294967296) = ((nm (zs.take (k + 1)) : Nat) : Int) := by
        rw [hnext.out, ← hj]
        have e := u32_or_nat t (x * 2 ^ (8 * k)) ht32 hsm
        rw [← e]
        congr 1
        have e2 : ((x * 2 ^ (8 * k) : Nat) : Int) % 4294967296 = ((x * 2 ^ (8 * k) : Nat) : Int) := by omega
        rw [← e2]
        simp
      clear hnext hj hsm ht ht32 hc hx
      go_wp2
      go_round
      case rel => exact ⟨k + 1, _, by omega, rfl, rfl, hid rfl⟩
      case measure => simp [intOf]; omega
    · obtain rfl : k = 4 := by omega
      go_wp2
      go_ret
      exact ⟨by rw [He.out, List.take_of_length_le (by rw [H.out.len]; exact Nat.le_refl _)]; rfl, rfl⟩
theorem By.part {w : World} {B n c b off : Nat} {xs : List Nat} (lo hi l : Nat) (h : By w B (some ⟨b, off, none⟩) n c xs) (h1 : hi = lo + l) (h2 : hi ≤ n) : By w B (some ⟨b, off + lo, none⟩) l (c - lo) ((xs.take hi).drop lo) := by
  have hl := h.len
  have hcap := h.cap
  refine ⟨by rw [List.length_drop, List.length_take]; omega, by omega, Nat.le_trans (by omega) h.max, fun x hx => h.lt x (List.mem_of_mem_take (List.mem_of_mem_drop hx)), fun hA => (by cases hA), fun h0 => ?_⟩
  obtain ⟨b', off', e, hB, hc⟩ := h.at_ (by omega)
  injection e with e
  injection e with e1 e2
  subst e1
  subst e2
  refine ⟨b, off + lo, rfl, hB, fun j x hj => ?_⟩
  rw [List.getElem?_drop, List.getElem?_take] at hj
  split at hj
  · rw [Nat.add_assoc]
    exact hc _ _ hj
  · cases hj
theorem By.first {w : World} {B n c : Nat} {A : Option Addr} {xs : List Nat} (l : Nat) (h : By w B A n c xs) (h2 : l ≤ n) : By w B A l c (xs.take l) := by
  have hl := h.len
  have hcap := h.cap
  refine ⟨by rw [List.length_take]; omega, by omega, Nat.le_trans (by omega) h.max, fun x hx => h.lt x (List.mem_of_mem_take hx), fun hA => ?_, fun h0 => ?_⟩
  · have := h.nil hA
    omega
  · obtain ⟨b, off, rfl, hB, hc⟩ := h.at_ (by omega)
    refine ⟨b, off, rfl, hB, fun j x hj => hc _ _ ?_⟩
    rw [List.getElem?_take] at hj
    split at hj
    · exact hj
    · cases hj
def flt (xs : List Nat) : Int :=
  if xs.length < 9 then 40
  else if nm (xs.drop (xs.length - 4)) = crc (xs.take (xs.length - 4)) then
    if xs.getD 0 0 = 72 ∧ xs.getD 1 0 = 1 ∧ xs.length - 9 ≤ 4096 ∧ xs.getD 3 0 * 256 + xs.getD 4 0 = xs.length - 9 then 0 else 41
  else 42
theorem or_small (a b : Nat) (ha : a < 65536) (hb : b < 65536) : bits BinOp.or IntKind.i64 (a : Int) (b : Int) = ((a ||| b : Nat) : Int) := by
  have hx : a ||| b < 2 ^ 16 := Nat.or_lt_two_pow (by omega) (by omega)
  show IntKind.i64.wrap ((BitVec.ofInt 64 (a : Int) ||| BitVec.ofInt 64 (b : Int)).toNat : Int) = _
  rw [BitVec.toNat_or, ofInt_u64 a (by omega), ofInt_u64 b (by omega), IntWalk.i64_in _ (by omega)]
set_option maxHeartbeats 6400000 in
theorem fault_any {w : World} {B n c : Nat} {A : Option Addr} {xs : List Nat} (h : By w B A n c xs) (hB : B ≤ w.heap.size) :
    Calls Tryz.prog 63 #[.slice A n c] w fun e w' => e = .returned (.int .i64 (flt xs)) ∧ Hid (Below w.heap.size w w') := by
  have H := hid h
  have hcap := h.cap
  have hmax := h.max
  have hlen := h.len
  by_cases h9 : n < 9
  · have hf : flt xs = 40 := by unfold flt; rw [if_pos (by omega)]
    rw [hf]
    have hw : IntKind.i64.wrap ((n : Int) - 9) = (n : Int) - 9 := IntWalk.i64_in _ (by omega)
    go_enter Tryz.func63, Tryz.ntmps63
    go_wp2
    go_ret
    exact ⟨rfl, hid (Below.refl _ _)⟩
  · obtain ⟨m, rfl⟩ : ∃ m, n = m + 9 := ⟨n - 9, by omega⟩
    have hw : IntKind.i64.wrap (((m + 9 : Nat) : Int) - 9) = (m : Int) := by rw [IntWalk.i64_in _ (by omega)]; omega
    obtain ⟨b, off, rfl, _, hc⟩ := h.at_ (by omega)
    have hw5 : IntKind.i64.wrap (5 + (m : Int)) = ((m + 5 : Nat) : Int) := by rw [IntWalk.i64_in _ (by omega)]; omega
    have hne : ¬ c = m + 5 := by omega
    have htn : ((m : Int) + 5).toNat = m + 5 := by omega
    have h45 : m + 9 - (m + 5) = 4 := by omega
    have hpart := h.part (m + 5) (m + 9) 4 (by omega) (by omega)
    have hfirst := h.first (m + 5) (by omega)
    have e4 : xs.length - 4 = m + 5 := by omega
    rw [List.take_of_length_le (by omega), ← e4] at hpart
    rw [show xs.take (m + 5) = xs.take (xs.length - 4) by rw [e4]] at hfirst
    rw [e4] at hpart
    have e5 : xs.drop (xs.length - 4) = xs.drop (m + 5) := by rw [e4]
    have CT : Hid (∀ w', Below w.heap.size w w' → Calls Tryz.prog 100 #[.slice (some ⟨b, off + (m + 5), none⟩) 4 (c - (m + 5))] w' fun e w'' => e = .returned (.int .u32 (nm (xs.drop (xs.length - 4)) : Int)) ∧ w' = w'') := hid fun w' hb => by
      rw [e5]
      exact takeSum_any ((hpart.mono hB).below hb)
    have CS : Hid (∀ w', Below w.heap.size w w' → Calls Tryz.prog 55 #[.slice (some ⟨b, off, none⟩) (m + 5) c] w' fun e w'' => e = .returned (.int .u32 (crc (xs.take (xs.length - 4)) : Int)) ∧ w' = w'') := hid fun w' hb => Sum_any ((hfirst.mono hB).below hb)
    have B0 := hid (Below.refl w.heap.size w).drew
    have Hflt : Hid (flt xs = if nm (xs.drop (xs.length - 4)) = crc (xs.take (xs.length - 4)) then if xs.getD 0 0 = 72 ∧ xs.getD 1 0 = 1 ∧ m ≤ 4096 ∧ xs.getD 3 0 * 256 + xs.getD 4 0 = m then 0 else 41 else 42) := hid (by
      unfold flt
      rw [if_neg (by omega), show xs.length - 9 = m by omega])
    have hat : ∀ j, j < 9 → w.cell? ⟨b, off + j, none⟩ = some (.int .u8 (xs.getD j 0 : Int)) := fun j hj => by
      refine hc j _ ?_
      rw [List.getD_eq_getElem?_getD, List.getElem?_eq_getElem (by omega)]
      rfl
    have hlt : ∀ j, xs.getD j 0 < 256 := fun j => by
      rw [List.getD_eq_getElem?_getD]
      cases hx : xs[j]? with
      | none => show 0 < 256; omega
      | some x => exact h.lt x (List.mem_of_getElem? hx)
    have k0 := hid (hat 0 (by omega))
    have k1 := hid (hat 1 (by omega))
    have k3 := hid (hat 3 (by omega))
    have k4 := hid (hat 4 (by omega))
    have l0 := hid (hlt 0)
    have l1 := hid (hlt 1)
    have l3 := hid (hlt 3)
    have l4 := hid (hlt 4)
    generalize nm (xs.drop (xs.length - 4)) = S1 at *
    generalize crc (xs.take (xs.length - 4)) = S2 at *
    generalize xs.getD 0 0 = x0 at *
    generalize xs.getD 1 0 = x1 at *
    generalize xs.getD 3 0 = x3 at *
    generalize xs.getD 4 0 = x4 at *
    generalize flt xs = fx at *
    clear hpart hfirst e4 e5 hat hlt hc h H hlen
    go_enter Tryz.func63, Tryz.ntmps63
    go_upto_region 3 with fail
    go_region_with (first
      | (go_at_call 100; (try simp only [htn, h45]); with_reducible refine (CT.out _ B0.out).mono ?_; rintro e w' ⟨rfl, rfl⟩)
      | (go_at_call 55; (try simp only [htn, h45]); with_reducible refine (CS.out _ B0.out).mono ?_; rintro e w' ⟨rfl, rfl⟩))
    all_goals
      have d0 : w.drew.cell? ⟨b, off, none⟩ = some (.int .u8 (x0 : Int)) := k0.out
      have d1 : w.drew.cell? ⟨b, off + 1, none⟩ = some (.int .u8 (x1 : Int)) := k1.out
      have hres : ∀ z : Int, z = fx → (Ending.returned (Value.int .i64 z) = Ending.returned (Value.int .i64 fx)) := fun z h => by rw [h]
      by_cases hS : S1 = S2
      · rw [if_pos hS] at Hflt
        by_cases h0 : x0 = 72
        · by_cases h1 : x1 = 1
          · by_cases hM : m ≤ 4096
            · subst hS
              subst h0
              subst h1
              have Hl3 := l3.out
              have Hl4 := l4.out
              have d3 : w.drew.drew.cell? ⟨b, off + 3, none⟩ = some (.int .u8 (x3 : Int)) := k3.out
              have d4 : w.drew.drew.cell? ⟨b, off + 4, none⟩ = some (.int .u8 (x4 : Int)) := k4.out
              have hwr : IntKind.i64.wrap ((x3 : Int) * 256) = (x3 : Int) * 256 := IntWalk.i64_in _ (by omega)
              have hor : bits BinOp.or IntKind.i64 ((x3 : Int) * 256) (x4 : Int) = ((x3 * 256 + x4 : Nat) : Int) := by
                rw [← nat_join 8 (x3 * 256) x4 (by omega) (by omega)]
                exact or_small (x3 * 256) x4 (by omega) (by omega)
              have B1 := hid (B0.out.drew)
              by_cases hL : x3 * 256 + x4 = m
              · have hb2 : (((x3 * 256 + x4 : Nat) : Int) != (m : Int)) = false := by simp; omega
                rw [if_pos ⟨rfl, rfl, hM, hL⟩] at Hflt
                go_wp2_with fail
                go_region
                all_goals
                  go_wp2
                  go_ret
                  exact ⟨by rw [Hflt.out]; rfl, B1⟩
              · have hb2 : (((x3 * 256 + x4 : Nat) : Int) != (m : Int)) = true := by simp; omega
                rw [if_neg (fun h => hL h.2.2.2)] at Hflt
                go_wp2_with fail
                go_region
                all_goals
                  go_wp2
                  go_ret
                  exact ⟨by rw [Hflt.out]; rfl, B1⟩
            · rw [if_neg (fun h => hM h.2.2.1)] at Hflt
              subst hS
              subst h0
              subst h1
              go_wp2
              go_ret
              exact ⟨by rw [Hflt.out]; rfl, B0⟩
          · have hb2 : ((x1 : Int) != 1) = true := by simp; omega
            rw [if_neg (fun h => h1 h.2.1)] at Hflt
            subst hS
            subst h0
            go_wp2
            go_ret
            exact ⟨by rw [Hflt.out]; rfl, B0⟩
        · have hb2 : ((x0 : Int) != 72) = true := by simp; omega
          rw [if_neg (fun h => h0 h.1)] at Hflt
          subst hS
          go_wp2
          go_ret
          exact ⟨by rw [Hflt.out]; rfl, B0⟩
      · have hb1 : ((S1 : Int) != (S2 : Int)) = true := by simp; omega
        rw [if_neg hS] at Hflt
        go_wp2
        go_ret
        exact ⟨by rw [Hflt.out]; rfl, B0⟩
open Go.RowKit
theorem copy_bytes {ops : Array Oper} {rest : List Oper} {o : Oper} {a : Act} {Q : Exit → Act → World → Prop} (hgd : o.guard = none) (s x : Operand)
    (ho : o.op = .call { callee := .builtin .append, args := #[s, x], argTypes := #[32, 32] }) {w : World} {B m c : Nat} {ys : List Nat} {A : Option Addr} (hs : a.eval s = .slice (some ⟨w.heap.size, 0, none⟩) 0 0) (hx : a.eval x = .slice A m c)
    (hy : By w B A m c ys) (hn : m ≤ 17592186044416)
    (h : ∀ v' w', Hid (Ow w' w.heap.size v' ys) → Hid (Below w.heap.size w w') → wpList Tryz.prog ops Q rest (a.put o.dst v') w') : wpList Tryz.prog ops Q (o :: rest) a (w.alloc (.cells #[] 5)) := by
  refine wpList_append_copy hgd s x 32 ho 5 (.int .u8 0) 1 (by kernel_rfl) u8_info rfl (by omega) hs hx (news := vals ys) (by rw [vals_length, hy.len]) hy.nil hy.cells (fun u hu => vals_one hu) hn ?_
  intro v' w' hown' hb
  refine h v' w' (hid ⟨?_, hy.lt, ?_⟩) hb
  · rw [hy.len]
    exact hown'.out
  · rw [hy.len]
    exact hy.max
set_option maxHeartbeats 1600000 in
theorem Clone_any {w : World} {B n c : Nat} {A : Option Addr} {xs : List Nat} (h : By w B A n c xs) (hn : n ≤ 17592186044416) :
    Calls Tryz.prog 64 #[.slice A n c] w fun e w' => ∃ v, e = .returned v ∧ Hid (Ow w' w.heap.size v xs) ∧ Hid (Below w.heap.size w w') := by
  have H := hid h
  cases A with
  | none =>
    obtain ⟨rfl, rfl⟩ := h.nil rfl
    have hx : xs = [] := List.length_eq_zero_iff.1 h.len
    subst hx
    clear h
    have he := Lib.run_eql_slice_nil (P := Tryz.prog) w 32 5 none 0 0 0 0 (by kernel_rfl)
    go_enter Tryz.func64, Tryz.ntmps64
    go_wp2
    go_ret
    exact ⟨_, rfl, hid (Ow.nil _ _), hid (Below.refl _ _)⟩
  | some p =>
    clear h
    have he := Lib.run_eql_slice_nil (P := Tryz.prog) w 32 5 (some p) n c 0 0 (by kernel_rfl)
    go_enter Tryz.func64, Tryz.ntmps64
    go_wp2_with (at_builtin; refine copy_bytes rfl (.tmp 5) (.tmp 6) rfl rfl rfl H.out hn ?_; intro v' w' hO hb)
    go_ret
    exact ⟨_, rfl, hO, hb⟩
theorem Take_bad {w : World} {B n c : Nat} {A : Option Addr} {xs : List Nat} (h : By w B A n c xs) (hB : B ≤ w.heap.size) (hf : flt xs ≠ 0) :
    Calls Tryz.prog 25 #[.slice A n c] w fun e w' => e = .returned (.tuple #[.int .u8 0, .slice none 0 0, .int .i64 (flt xs)]) ∧ Hid (Below w.heap.size w w') := by
  have CF := hid (fault_any h hB)
  have hz : (flt xs != 0) = true := by simpa using hf
  clear h hf
  generalize flt xs = z at *
  go_enter Tryz.func25, Tryz.ntmps25
  go_wp2_with fail
  refine CF.out.mono ?_
  rintro e w' ⟨rfl, hb⟩
  go_wp2
  go_ret3
  exact ⟨rfl, hb⟩
theorem flt_good {xs : List Nat} (hf : flt xs = 0) : 9 ≤ xs.length ∧ xs.length - 9 ≤ 4096 ∧ nm (xs.drop (xs.length - 4)) = crc (xs.take (xs.length - 4)) ∧ xs.getD 0 0 = 72 ∧ xs.getD 1 0 = 1 ∧ xs.getD 3 0 * 256 + xs.getD 4 0 = xs.length - 9 := by
  unfold flt at hf
  split at hf
  · cases hf
  · split at hf
    · split at hf
      · rename_i h1 h2 h3
        exact ⟨by omega, h3.2.2.1, h2, h3.1, h3.2.1, h3.2.2.2⟩
      · cases hf
    · cases hf
set_option maxHeartbeats 3200000 in
theorem Take_good {w : World} {B n c : Nat} {A : Option Addr} {xs : List Nat} (h : By w B A n c xs) (hB : B ≤ w.heap.size) (hf : flt xs = 0) :
    Calls Tryz.prog 25 #[.slice A n c] w fun e w' => ∃ v, e = .returned (.tuple #[.int .u8 (xs.getD 2 0 : Int), v, .int .i64 0]) ∧ Hid (Ow w' w.heap.size v ((xs.take (xs.length - 4)).drop 5)) ∧ Hid (Below w.heap.size w w') := by
  have CF := hid (fault_any h hB)
  rw [hf] at CF
  obtain ⟨h9, hm, -, -, -, -⟩ := flt_good hf
  have hlen := h.len
  obtain ⟨m, rfl⟩ : ∃ m, n = m + 9 := ⟨n - 9, by omega⟩
  obtain ⟨b, off, rfl, hbB, hc⟩ := h.at_ (by omega)
  have hcap := h.cap
  have hm2 : m ≤ 4096 := by omega
  have hw : IntKind.i64.wrap (((m + 9 : Nat) : Int) - 4) = ((m + 5 : Nat) : Int) := by rw [IntWalk.i64_in _ (by omega)]; omega
  have hne : ¬ c = 5 := by omega
  have htn : ((m : Int) + 5).toNat = m + 5 := by omega
  have h45 : m + 5 - 5 = m := by omega
  have g1 : (5 : Int) ≤ (m : Int) + 9 - 4 := by omega
  have g2 : (m : Int) + 9 - 4 ≤ (c : Int) := by omega
  have g3 : ((m : Int) + 9 - 4).toNat = m + 5 := by omega
  have g4 : IntKind.i64.wrap ((m : Int) + 9 - 4) = (m : Int) + 9 - 4 := IntWalk.i64_in _ (by omega)
  have HP := hid (h.part 5 (m + 5) m (by omega) (by omega))
  have hk : w.cell? ⟨b, off + 2, none⟩ = some (.int .u8 (xs.getD 2 0 : Int)) := by
    refine hc 2 _ ?_
    rw [List.getD_eq_getElem?_getD, List.getElem?_eq_getElem (by omega)]
    rfl
  have Hk := hid hk
  have hbw : b < w.heap.size := by omega
  rw [show xs.length - 4 = m + 5 by omega]
  generalize xs.getD 2 0 = x2 at *
  generalize (xs.take (m + 5)).drop 5 = ys at *
  clear h hf hc hk hm hlen h9
  go_enter Tryz.func25, Tryz.ntmps25
  go_wp2_with fail
  refine CF.out.mono ?_
  rintro e w1 ⟨rfl, hb⟩
  have hk1 : w1.drew.cell? ⟨b, off + 2, none⟩ = some (.int .u8 (x2 : Int)) := (hb.out.cell (p := ⟨b, off + 2, none⟩) hbw).trans Hk.out
  have HB1 := hid hb.out.drew
  have HP1 := hid ((HP.out.mono hB).below HB1.out)
  have hs1 := HB1.out.size
  go_upto_region 4 with fail
  go_region_with ((go_at_call 64; (try simp only [htn, h45, g3]); with_reducible refine (Clone_any HP1.out (by omega)).mono ?_; rintro e w2 ⟨v, rfl, hO, hb2⟩; have hk2 : w2.cell? ⟨b, off + 2, none⟩ = some (.int .u8 (x2 : Int)) := (hb2.out.cell (p := ⟨b, off + 2, none⟩) (Nat.lt_of_lt_of_le hbw hs1)).trans hk1))
  all_goals
    go_wp2
    go_ret3
    exact ⟨_, rfl, hid (hO.out.mono hs1), hid (HB1.out.trans (hb2.out.mono hs1))⟩
open Go.RowKit
def hd (kind : Nat) (xs : List Nat) : List Nat := [72, 1, kind, xs.length / 256, xs.length % 256]
def frm (kind : Nat) (xs : List Nat) : List Nat := hd kind xs ++ xs ++ bys (crc (hd kind xs ++ xs)) 4
theorem hd_lt {kind : Nat} {xs : List Nat} (hk : kind < 256) (hn : xs.length ≤ 4096) : ∀ x ∈ hd kind xs, x < 256 := by
  intro x hx
  simp [hd] at hx
  rcases hx with h | h | h | h | h <;> omega
theorem Ow.made {w : World} {B c : Nat} (hB : B ≤ w.heap.size) (hc : c ≤ 1000000) : Ow (w.alloc (.cells (madeCells #[.int .u8 0] c) 5)) B (.slice (some ⟨w.heap.size, 0, none⟩) 0 c) [] :=
  ⟨⟨rfl, .inr ⟨w.heap.size, c, _, rfl, hB, heap_alloc_new w _, Nat.zero_le _, by unfold maxLen; omega, by simp [madeCells], rfl⟩⟩, by simp, by simp⟩
set_option maxHeartbeats 3200000 in
set_option maxRecDepth 100000 in
theorem Put_fits {w : World} {n c : Nat} {A : Option Addr} {kind : Nat} {xs : List Nat} (h : By w w.heap.size A n c xs) (hk : kind < 256) (hn : n ≤ 4096) :
    Calls Tryz.prog 22 #[.int .u8 (kind : Int), .slice A n c] w fun e w' => ∃ v, e = .returned (.tuple #[v, .int .i64 0]) ∧ Hid (Ow w' w.heap.size v (frm kind xs)) ∧ Hid (Below w.heap.size w w') := by
  have hcap := h.cap
  have hlen := h.len
  obtain ⟨i, hi, hz, hsz, hby⟩ := info_one u8_info
  have hmk : (Instr.makeSlice 32 (.int .i64 0) (.int .i64 (9 + (n : Int)))).run Tryz.prog w = .ok (.slice (some ⟨w.heap.size, 0, none⟩) 0 (9 + n)) (w.alloc (.cells (madeCells #[.int .u8 0] (9 + n)) 5)) := by
    have hr := run_make (P := Tryz.prog) w 32 5 i (.int .u8 0) (by kernel_rfl) hi hz .i64 .i64 0 (9 + (n : Int)) (by omega) (by omega) (by rw [hby]; omega) (by omega)
    rw [hr, hsz, show (9 + (n : Int)).toNat = 9 + n by omega, Nat.mul_one]
    rfl
  have hw9 : IntKind.i64.wrap (9 + (n : Int)) = 9 + (n : Int) := IntWalk.i64_in _ (by omega)
  have O1 := Ow.made (w := w) (B := w.heap.size) (c := 9 + n) (Nat.le_refl _) (by omega)
  have B1 : Below w.heap.size w (w.alloc (.cells (madeCells #[.int .u8 0] (9 + n)) 5)) := (Below.refl _ w).alloc (Nat.le_refl _) _
  generalize hW : w.alloc (.cells (madeCells #[.int .u8 0] (9 + n)) 5) = W at *
  have hyl := hd_lt (kind := kind) (xs := xs) hk (by omega)
  obtain ⟨y1, hy1⟩ : ∃ y1, y1 = xs.length / 256 := ⟨_, rfl⟩
  obtain ⟨y2, hy2⟩ : ∃ y2, y2 = xs.length % 256 := ⟨_, rfl⟩
  have hv1 : (n : Int) / 256 = (y1 : Int) := by omega
  have hv2 : (n : Int) % 256 = (y2 : Int) := by omega
  have Hhd : Hid ([72, 1, kind, y1, y2] = hd kind xs) := hid (by rw [hy1, hy2]; rfl)
  rw [← Hhd.out] at hyl
  have HO1 := hid (O1.below ((Below.refl W.heap.size W).alloc (Nat.le_refl _) (.cells (vals [72, 1, kind, y1, y2]).toArray 5)) (Nat.le_refl _))
  have HB1 := hid (B1.trans ((((Below.refl W.heap.size W).alloc (Nat.le_refl _) (.cells (vals [72, 1, kind, y1, y2]).toArray 5))).mono B1.size))
  have HY := hid (By.new W [72, 1, kind, y1, y2] hyl (by simp))
  have HX := hid h
  have hs1 := B1.size
  have Hlen := hid hlen
  clear h O1 B1 hi hz hsz hby hlen hy1 hy2 hyl
  obtain ⟨zs, hzs⟩ : ∃ zs, hd kind xs ++ xs = zs := ⟨_, rfl⟩
  obtain ⟨l, hl⟩ : ∃ l, zs.length = l := ⟨_, rfl⟩
  have hl2 : l ≤ 5000 := by rw [← hl, ← hzs, List.length_append, Hlen.out]; simp [hd]; omega
  have Hzs : Hid ([] ++ [72, 1, kind, y1, y2] ++ xs = zs) := hid (by rw [← hzs, Hhd.out]; rfl)
  have Hz2 : Hid (hd kind xs ++ xs = zs) := hid hzs
  have Hl := hid hl
  clear hzs hl
  go_enter Tryz.func22, Tryz.ntmps22
  go_wp2_with (first
    | (at_builtin; refine app_bytes rfl (.tmp 14) (.tmp 23) rfl rfl rfl HO1.out (by simp; omega) HY.out (by simp) ?_; intro v1 w1 hO1 hb1; have Hx1 := hid (HX.out.below (HB1.out.trans hb1.out)); have hs2 := (HB1.out.trans hb1.out).size)
    | (at_builtin; refine app_bytes rfl (.tmp 25) (.tmp 26) rfl rfl rfl hO1.out hs2 Hx1.out (by simp; omega) ?_; intro v2 w2 hO2 hb2; have hO3 := hO2.out; rw [Hzs.out] at hO3; have hsh := hO3.shape; rw [Hl.out] at hsh; obtain ⟨A2, c2, rfl, hY2⟩ := hsh; have HY2 := hid hY2; have HO3 := hid hO3; clear hY2 hO3 hO2; have Hs3 := hid hb2.out.size)
    | (go_at_call 55; with_reducible refine (Sum_any HY2.out).mono ?_; rintro e w3 ⟨rfl, rfl⟩)
    | (go_at_call 54; with_reducible refine (putSum_any HO3.out (Nat.le_trans hs2 Hs3.out) (by rw [Hl.out]; omega)).mono ?_; rintro e w3 ⟨v3, rfl, hO4, hb4⟩)
    | fail)
  go_ret2
  refine ⟨_, rfl, hid ?_, hid (((HB1.out.trans hb1.out).trans hb2.out).trans hb4.out)⟩
  unfold frm
  rw [Hz2.out]
  exact hO4.out
open Go.RowKit
set_option maxHeartbeats 3200000 in
theorem RSum_any {w : World} {B n c : Nat} {A : Option Addr} {xs : List Nat} (h : By w B A n c xs) :
    Calls Tryz.prog 69 #[.slice A n c] w fun e w' => e = .returned (.int .u32 (crc xs : Int)) ∧ w = w' := by
  have H := hid h
  have hm := h.max
  have hcap := h.cap
  have hc : Hid (crc xs = xs.foldl cb 4294967295 ^^^ 4294967295) := rfl
  clear h
  go_enter Tryz.func69, Tryz.ntmps69
  go_wp2
  go_loop [3, 4, 5, 6] (fun a i _ _ => ∃ k t : Nat, k ≤ n ∧ i = .int .i64 k ∧ a = .int .u32 (t : Int) ∧ t < 4294967296 ∧ Hid (t = (xs.take k).foldl cb 4294967295)) (fun _ i _ _ => n - (intOf i).toNat)
  case atStart => exact ⟨0, 4294967295, by omega, rfl, rfl, by omega, hid rfl⟩
  case round =>
    obtain ⟨k, t, hk, rfl, rfl, ht, He⟩ := hrel
    by_cases hcon : k < n
    · obtain ⟨b, off, rfl, _, hcc⟩ := H.out.at_ (by omega)
      obtain ⟨x, hx⟩ : ∃ x, xs[k]? = some x := ⟨xs[k]'(by rw [H.out.len]; exact hcon), List.getElem?_eq_getElem _⟩
      have hcell := hcc k x hx
      have hx256 := H.out.lt x (List.mem_of_getElem? hx)
      have h1 := xor_u32 t x ht (by omega)
      have hT : Hid (cb t x = cn 8 (t ^^^ x)) := hid rfl
      have hTl : t ^^^ x < 4294967296 := Nat.xor_lt_two_pow (n := 32) ht (by omega)
      have hnext : Hid ((xs.take (k + 1)).foldl cb 4294967295 = cb t x) := hid (by rw [take_fold hx, He.out])
      generalize t ^^^ x = T at *
      clear hcc hx
      go_wp2
      go_loop [3, 5, 6] (fun a i _ => ∃ j s : Nat, j ≤ 8 ∧ i = .int .i64 j ∧ a = .int .u32 (s : Int) ∧ s < 4294967296 ∧ Hid (s = cn j T)) (fun _ i _ => 8 - (intOf i).toNat)
      case atStart => exact ⟨0, T, by omega, rfl, rfl, hTl, hid rfl⟩
      case round =>
        obtain ⟨j, s, hj, rfl, rfl, hs, Hs⟩ := hrel
        have hx2 : bits BinOp.xor IntKind.u32 ((s : Int) / 2) 3988292384 = ((s / 2 ^^^ 3988292384 : Nat) : Int) := xor_u32 (s / 2) 3988292384 (by omega) (by omega)
        have hxl : s / 2 ^^^ 3988292384 < 4294967296 := Nat.xor_lt_two_pow (n := 32) (by omega) (by omega)
        have hn2 : Hid (c1 s = cn (j + 1) T) := hid (by rw [cn_add, ← Hs.out]; rfl)
        by_cases hcon2 : j < 8
        · rcases Nat.mod_two_eq_zero_or_one s with h2 | h2
          · have hc1 : Hid (s / 2 = cn (j + 1) T) := hid (by rw [← hn2.out]; unfold c1; rw [h2, if_neg (by omega), Nat.xor_zero])
            have ha : (s : Int) % 2 = 0 := by omega
            clear h2 hx2 hxl hn2
            go_wp2
            go_round
            case rel => exact ⟨j + 1, s / 2, by omega, by go_num, by simp, by omega, hc1⟩
            case measure => simp [intOf]; omega
          · have hc1 : Hid (s / 2 ^^^ 3988292384 = cn (j + 1) T) := hid (by rw [← hn2.out]; unfold c1; rw [h2, if_pos rfl])
            have ha : (s : Int) % 2 = 1 := by omega
            generalize s / 2 ^^^ 3988292384 = y at *
            clear h2 hn2
            go_wp2
            go_round
            case rel => exact ⟨j + 1, y, by omega, by go_num, rfl, hxl, hc1⟩
            case measure => simp [intOf]; omega
        · obtain rfl : j = 8 := by omega
          have hfin : Hid (s = (xs.take (k + 1)).foldl cb 4294967295) := hid (by rw [hnext.out, hT.out, Hs.out])
          clear hx2 hxl hn2
          go_wp2
          go_round
          case rel => exact ⟨k + 1, s, by omega, by go_num, rfl, hs, hfin⟩
          case measure => simp [intOf]; omega
    · obtain rfl : k = n := by omega
      have ht2 : t = xs.foldl cb 4294967295 := by rw [He.out, List.take_of_length_le (by rw [H.out.len]; exact Nat.le_refl _)]
      obtain ⟨z, hz⟩ : ∃ z, z = crc xs := ⟨_, rfl⟩
      have hx : bits BinOp.xor IntKind.u32 (t : Int) 4294967295 = (z : Int) := by
        rw [hz, hc.out, ← ht2]
        exact u32_xor_nat _ 4294967295 ht (by omega)
      have Hz := hid hz
      clear hc ht2 hz
      go_wp2
      go_ret
      exact ⟨by rw [← Hz.out]; rfl, rfl⟩
set_option maxHeartbeats 3200000 in
theorem RFramed_any {w : World} {n c : Nat} {A : Option Addr} {kind : Nat} {xs : List Nat} (h : By w w.heap.size A n c xs) (hk : kind < 256) (hn : n ≤ 4096) :
    Calls Tryz.prog 61 #[.int .u8 (kind : Int), .slice A n c] w fun e w' => ∃ v, e = .returned v ∧ Hid (Ow w' w.heap.size v (frm kind xs)) ∧ Hid (Below w.heap.size w w') := by
  have hcap := h.cap
  have hlen := h.len
  have hyl := hd_lt (kind := kind) (xs := xs) hk (by omega)
  obtain ⟨y1, hy1⟩ : ∃ y1, y1 = xs.length / 256 := ⟨_, rfl⟩
  obtain ⟨y2, hy2⟩ : ∃ y2, y2 = xs.length % 256 := ⟨_, rfl⟩
  have hv1 : (n : Int) / 256 = (y1 : Int) := by omega
  have hv2 : (n : Int) % 256 = (y2 : Int) := by omega
  have hy1l : (y1 : Int) < 256 := by omega
  have hy2l : (y2 : Int) < 256 := by omega
  have Hhd : Hid ([72, 1, kind, y1, y2] = hd kind xs) := hid (by rw [hy1, hy2]; rfl)
  rw [← Hhd.out] at hyl
  have HO1 : Hid (Ow (w.alloc (.cells (vals [72, 1, kind, y1, y2]).toArray 5)) w.heap.size (.slice (some ⟨w.heap.size, 0, none⟩) 5 5) [72, 1, kind, y1, y2]) :=
    hid ⟨⟨rfl, .inr ⟨w.heap.size, 5, _, rfl, Nat.le_refl _, heap_alloc_new w _, Nat.le_refl _, by unfold maxLen; omega, rfl, rfl⟩⟩, hyl, by simp⟩
  have HB1 := hid ((Below.refl w.heap.size w).alloc (Nat.le_refl _) (.cells (vals [72, 1, kind, y1, y2]).toArray 5))
  have HX := hid (h.below HB1.out)
  have Hlen := hid hlen
  obtain ⟨zs, hzs⟩ : ∃ zs, hd kind xs ++ xs = zs := ⟨_, rfl⟩
  obtain ⟨l, hl⟩ : ∃ l, zs.length = l := ⟨_, rfl⟩
  have hl2 : l ≤ 5000 := by rw [← hl, ← hzs, List.length_append, Hlen.out]; simp [hd]; omega
  have Hzs : Hid ([72, 1, kind, y1, y2] ++ xs = zs) := hid (by rw [← hzs, Hhd.out])
  have Hz2 : Hid (hd kind xs ++ xs = zs) := hid hzs
  have Hl := hid hl
  obtain ⟨s, hs⟩ : ∃ s, s = crc zs := ⟨_, rfl⟩
  have Hs := hid hs
  obtain ⟨q1, hq1⟩ : ∃ q, q = s % 256 := ⟨_, rfl⟩
  obtain ⟨q2, hq2⟩ : ∃ q, q = s / 256 % 256 := ⟨_, rfl⟩
  obtain ⟨q3, hq3⟩ : ∃ q, q = s / 65536 % 256 := ⟨_, rfl⟩
  obtain ⟨q4, hq4⟩ : ∃ q, q = s / 16777216 % 256 := ⟨_, rfl⟩
  have hb : bys s 4 = [q1, q2, q3, q4] := by
    simp only [bys, Nat.div_div_eq_div_mul]
    rw [hq1, hq2, hq3, hq4]
  have Hb := hid hb
  have hu1 : (s : Int) % 256 = (q1 : Int) := by omega
  have hu2 : (s : Int) / 256 % 256 = (q2 : Int) := by omega
  have hu3 : (s : Int) / 65536 % 256 = (q3 : Int) := by omega
  have hu4 : (s : Int) / 16777216 % 256 = (q4 : Int) := by omega
  have hql : ∀ x ∈ [q1, q2, q3, q4], x < 256 := by
    intro x hx
    simp at hx
    rcases hx with h | h | h | h <;> omega
  have hql4 : q4 < 256 := by omega
  have Hql := hid hql
  clear h hlen hy1 hy2 hyl hzs hl hs hq1 hq2 hq3 hq4 hb hql
  go_enter Tryz.func61, Tryz.ntmps61
  go_wp2_with (first
    | (at_builtin; refine app_bytes rfl (.tmp 16) (.tmp 17) rfl rfl rfl HO1.out (by simp) HX.out (by simp; omega) ?_; intro v2 w2 hO2 hb2; have hO3 := hO2.out; rw [Hzs.out] at hO3; have hsh := hO3.shape; rw [Hl.out] at hsh; obtain ⟨A2, c2, rfl, hY2⟩ := hsh; have HY2 := hid hY2; have HO3 := hid hO3; clear hY2 hO3 hO2; have Hs3 := hid (Nat.le_trans HB1.out.size hb2.out.size))
    | (go_at_call 69; with_reducible refine (RSum_any HY2.out).mono ?_; rw [← Hs.out]; rintro e w3 ⟨rfl, rfl⟩; have HN := hid (By.new w2 [q1, q2, q3, q4] Hql.out (by simp)); have HAl := hid ((Below.refl w2.heap.size w2).alloc (Nat.le_refl _) (.cells (vals [q1, q2, q3, q4]).toArray 5)); have HO4 := hid (HO3.out.below HAl.out (Nat.le_refl _)))
    | (at_builtin; refine app_bytes rfl (.tmp 21) (.tmp 33) rfl rfl rfl HO4.out (Nat.le_trans Hs3.out HAl.out.size) HN.out (by rw [Hl.out]; simp; omega) ?_; intro v4 w4 hO5 hb4)
    | fail)
  go_ret
  refine ⟨_, rfl, hid ?_, hid ((HB1.out.trans hb2.out).trans ((HAl.out.mono Hs3.out).trans hb4.out))⟩
  unfold frm
  rw [Hz2.out, ← Hs.out, Hb.out]
  exact hO5.out
open Go.RowKit
def str (xs : List Nat) : ByteArray := ⟨(xs.map fun x => UInt8.ofNat x).toArray⟩
theorem str_inj {xs ys : List Nat} (hx : ∀ x ∈ xs, x < 256) (hy : ∀ x ∈ ys, x < 256) (h : str xs = str ys) : xs = ys := by
  have h1 : xs.map (fun x => UInt8.ofNat x) = ys.map (fun x => UInt8.ofNat x) := by
    have := congrArg (fun b : ByteArray => b.data.toList) h
    simpa [str] using this
  have h2 := congrArg (List.map UInt8.toNat) h1
  rw [List.map_map, List.map_map] at h2
  have e : ∀ zs : List Nat, (∀ x ∈ zs, x < 256) → zs.map (UInt8.toNat ∘ fun x => UInt8.ofNat x) = zs := by
    intro zs hz
    rw [List.map_congr_left (g := id) (fun x hx => by show (UInt8.ofNat x).toNat = x; simp; exact hz x hx), List.map_id]
  rwa [e xs hx, e ys hy] at h2
theorem str_beq {xs ys : List Nat} (hx : ∀ x ∈ xs, x < 256) (hy : ∀ x ∈ ys, x < 256) : (str xs == str ys) = decide (xs = ys) := by
  show ((str xs).data == (str ys).data) = _
  by_cases h : xs = ys
  · subst h
    rw [decide_eq_true rfl]
    exact beq_self_eq_true _
  · rw [decide_eq_false h]
    refine beq_eq_false_iff_ne.2 (fun h2 => h (str_inj hx hy ?_))
    show ByteArray.mk (str xs).data = ByteArray.mk (str ys).data
    rw [h2]
theorem conv_any {w : World} {B n c : Nat} {A : Option Addr} {xs : List Nat} (h : By w B A n c xs) : (convert 32 9 (.slice A n c)).run Tryz.prog w = .ok (.string (str xs)) w := by
  cases A with
  | none =>
    obtain ⟨rfl, rfl⟩ := h.nil rfl
    obtain rfl : xs = [] := List.length_eq_zero_iff.1 h.len
    exact run_convert_bytes_nil (P := Tryz.prog) w 32 5 (by kernel_rfl) (by kernel_rfl) 0 0 9 (by kernel_rfl)
  | some p =>
    rcases Nat.eq_zero_or_pos n with h0 | h0
    · subst h0
      obtain rfl : xs = [] := List.length_eq_zero_iff.1 h.len
      obtain ⟨b, off, far⟩ := p
      rw [run_convert_bytes_string w 32 9 5 _ 0 c (by kernel_rfl) (by kernel_rfl) (by kernel_rfl), run_bytesToString (P := Tryz.prog) w _ 0 c [] (by
        have := run_loadCells_list (P := Tryz.prog) w ⟨b, off, far⟩ [] (fun j v hj => by simp at hj)
        simpa using this)]
      rfl
    · obtain ⟨b, off, e, _, hc⟩ := h.at_ h0
      injection e with e
      subst e
      have := run_convert_bytes_arg (P := Tryz.prog) w 32 5 (by kernel_rfl) (by kernel_rfl) b off n c (xs.map fun x : Nat => (x : Int)) (by rw [List.length_map]; exact h.len) (fun i hi => by
        have hx : xs[i]? = some (xs[i]'(by rw [h.len]; exact hi)) := List.getElem?_eq_getElem _
        rw [hc i _ hx]
        simp [List.getD_eq_getElem?_getD, hx]) 9 (by kernel_rfl)
      rw [this]
      congr 2
      simp [strOfNums, str]
theorem By.nul (w : World) (B : Nat) : By w B none 0 0 [] := ⟨rfl, Nat.le_refl _, by omega, by simp, fun _ => ⟨rfl, rfl⟩, fun h => absurd h (by omega)⟩
open Go.RowKit
theorem hd_length (kind : Nat) (xs : List Nat) : (hd kind xs).length = 5 := rfl
theorem frm_length (kind : Nat) (xs : List Nat) : (frm kind xs).length = xs.length + 9 := by
  unfold frm
  rw [List.length_append, List.length_append, bys_length, hd_length]
  omega
open Go.RowKit
theorem By.nth {w : World} {B n c : Nat} {A : Option Addr} {xs : List Nat} (h : By w B A n c xs) (j : Nat) : xs.getD j 0 < 256 := by
  rw [List.getD_eq_getElem?_getD]
  cases hx : xs[j]? with
  | none => show 0 < 256; omega
  | some x => exact h.lt x (List.mem_of_getElem? hx)
open Go.RowKit
set_option maxHeartbeats 1600000 in
theorem putDigits_any {w : World} {B V z : Nat} {v : Value} {xs : List Nat} (h : Ow w B v xs) (hB : B ≤ w.heap.size) (hn : xs.length ≤ 1000000) (hz : z ≤ 8) (_hV : V ≤ 18446744073709551615) :
    Calls Tryz.prog 88 #[v, .int .u64 (V : Int), .int .i64 (z : Int)] w fun e w' => ∃ v', e = .returned v' ∧ Hid (Ow w' B v' (xs ++ be V z)) ∧ Hid (Below B w w') := by
  have H := hid h
  clear h
  go_enter Tryz.func88, Tryz.ntmps88
  go_wp2
  go_loopw [0, 9, 7] (fun a i _ wr => ∃ k : Nat, k ≤ z ∧ i = .int .i64 k ∧ Hid (Ow wr B a (xs ++ (be V z).take k)) ∧ Hid (Below B w wr)) (fun _ i _ _ => z - (intOf i).toNat)
  case atStart => exact ⟨0, by omega, rfl, hid (by rw [List.take_zero, List.append_nil]; exact H.out), hid (Below.refl _ _)⟩
  case round =>
    obtain ⟨k, hk, rfl, hO, hb⟩ := hrel
    by_cases hcon : k < z
    · have hlen : (xs ++ (be V z).take k).length + 1 ≤ 17592186044416 := by
        rw [List.length_append, List.length_take]
        omega
      obtain ⟨t, ht⟩ : ∃ t : Nat, t = 8 * (z - 1 - k) := ⟨_, rfl⟩
      have hval : ((V : Int) / 2 ^ t % 256) = ((V / 256 ^ (z - 1 - k) % 256 : Nat) : Int) := by
        rw [show (256 : Nat) ^ (z - 1 - k) = 2 ^ t by rw [ht, Nat.pow_mul]]
        simp
      have hy : V / 256 ^ (z - 1 - k) % 256 < 256 := Nat.mod_lt _ (by omega)
      have hnext : Hid ((be V z).take (k + 1) = (be V z).take k ++ [V / 256 ^ (z - 1 - k) % 256]) := hid (be_take hcon)
      generalize V / 256 ^ (z - 1 - k) % 256 = y at *
      have hw1 : IntKind.i64.wrap ((z : Int) - 1) = (z : Int) - 1 := IntWalk.i64_in _ (by omega)
      have hw2 : IntKind.i64.wrap ((z : Int) - 1 - (k : Int)) = (z : Int) - 1 - (k : Int) := IntWalk.i64_in _ (by omega)
      have hw3 : IntKind.i64.wrap (8 * ((z : Int) - 1 - (k : Int))) = (t : Int) := by rw [IntWalk.i64_in _ (by omega)]; omega
      have hw4 : 8 * ((z : Int) - 1 - (k : Int)) = (t : Int) := by omega
      have htl : t ≤ 56 := by omega
      have HB := hid (By.new wr [y] (by simpa using hy) (by simp))
      have Hal := hid ((Below.refl wr.heap.size wr).alloc (Nat.le_refl _) (.cells (vals [y]).toArray 5))
      have HO := hid (hO.out.below Hal.out (Nat.le_refl _))
      have hsz := hb.out.size
      clear hy ht
      go_wp2_with (at_builtin; refine app_bytes rfl (.tmp 12) (.tmp 21) rfl rfl rfl HO.out (by simp; omega) HB.out hlen ?_; intro v' w' hO' hb')
      go_roundw
      case rel => exact ⟨k + 1, by omega, by go_num, hid (by rw [hnext.out, ← List.append_assoc]; exact hO'.out), hid ((hb.out.trans (Hal.out.mono (by omega))).trans hb'.out)⟩
      case measure => simp [intOf]; omega
    · obtain rfl : k = z := by omega
      go_wp2
      go_ret
      exact ⟨_, rfl, by rwa [be_all] at hO, hb⟩
theorem make_bytes (n : Nat) (hn : n ≤ 1000000) (w : World) (x : Int) (hx : x = (n : Int)) :
    (Instr.makeSlice 32 (.int .i64 0) (.int .i64 x)).run Tryz.prog w = .ok (.slice (some ⟨w.heap.size, 0, none⟩) 0 n) (w.alloc (.cells (madeCells #[.int .u8 0] n) 5)) := by
  obtain ⟨i, hi, hz, hsz, hby⟩ := info_one u8_info
  have hr := run_make (P := Tryz.prog) w 32 5 i (.int .u8 0) (by kernel_rfl) hi hz .i64 .i64 0 x (by omega) (by omega) (by rw [hby]; omega) (by omega)
  rw [hr, hsz, show x.toNat = n by omega, Nat.mul_one]
  rfl
set_option maxHeartbeats 1600000 in
theorem widened_many {w : World} {n c m : Nat} {A : Option Addr} (hn : 3900 < n + m) (hm : m ≤ 10000) (_hx : n ≤ 140737488355328) :
    Calls Tryz.prog 87 #[.slice A n c, .int .i64 (m : Int)] w fun e w' => e = .returned (.tuple #[.slice none 0 0, .int .i64 4]) ∧ w = w' := by
  have hw : IntKind.i64.wrap (3900 - (m : Int)) = 3900 - (m : Int) := IntWalk.i64_in _ (by omega)
  go_enter Tryz.func87, Tryz.ntmps87
  go_wp2
  go_ret2
  exact ⟨rfl, rfl⟩
set_option maxHeartbeats 3200000 in
theorem widened_fits {w : World} {n c m : Nat} {A : Option Addr} {xs : List Nat} (h : By w w.heap.size A n c xs) (hn : n + m ≤ 3900) :
    Calls Tryz.prog 87 #[.slice A n c, .int .i64 (m : Int)] w fun e w' => ∃ v, e = .returned (.tuple #[v, .int .i64 0]) ∧ Hid (Ow w' w.heap.size v xs) ∧ Hid (Below w.heap.size w w') := by
  have hw : IntKind.i64.wrap (3900 - (m : Int)) = 3900 - (m : Int) := IntWalk.i64_in _ (by omega)
  have hw2 : IntKind.i64.wrap ((n : Int) + (m : Int)) = (n : Int) + (m : Int) := IntWalk.i64_in _ (by omega)
  have hmk := make_bytes (n + m) (by omega) w ((n : Int) + (m : Int)) (by omega)
  have O1 := hid (Ow.made (w := w) (B := w.heap.size) (c := n + m) (Nat.le_refl _) (by omega))
  have HB1 := hid ((Below.refl w.heap.size w).alloc (Nat.le_refl _) (.cells (madeCells #[.int .u8 0] (n + m)) 5))
  have HX := hid (h.below HB1.out)
  have hmax := h.max
  generalize hW : w.alloc (.cells (madeCells #[.int .u8 0] (n + m)) 5) = W at *
  have hs := HB1.out.size
  clear h hW
  go_enter Tryz.func87, Tryz.ntmps87
  go_wp2_with (at_builtin; refine app_bytes rfl (.tmp 15) (.tmp 16) rfl rfl rfl O1.out hs HX.out (by simp; omega) ?_; intro v' w' hO' hb')
  go_ret2
  exact ⟨_, rfl, by rwa [List.nil_append] at hO', hid (HB1.out.trans hb'.out)⟩
set_option maxHeartbeats 3200000 in
theorem putLimbs_any {w : World} {B n c : Nat} {v : Value} {A : Option Addr} {f : Nat → Nat} {xs : List Nat} (h : Ow w B v xs) (hB : B ≤ w.heap.size) (hn : xs.length ≤ 10000) (hr : Rd w B A n c f) (hn2 : n ≤ 42) :
    Calls Tryz.prog 91 #[v, .slice A n c] w fun e w' => ∃ v', e = .returned v' ∧ Hid (Ow w' B v' (xs ++ lms f n)) ∧ Hid (Below B w w') := by
  have H := hid h
  have HR := hid hr
  have hcap := hr.cap
  clear h hr
  go_enter Tryz.func91, Tryz.ntmps91
  go_wp2
  go_loopw [0, 9, 6] (fun a i _ wr => ∃ k : Nat, k ≤ n ∧ i = .int .i64 k ∧ Hid (Ow wr B a (xs ++ lms f k)) ∧ Hid (Below B w wr)) (fun _ i _ _ => n - (intOf i).toNat)
  case atStart => exact ⟨0, by omega, rfl, hid (by rw [show lms f 0 = [] from rfl, List.append_nil]; exact H.out), hid (Below.refl _ _)⟩
  case round =>
    obtain ⟨k, hk, rfl, hO, hb⟩ := hrel
    by_cases hcon : k < n
    · obtain ⟨b, off, rfl, hbB, hc⟩ := HR.out.at_ (by omega)
      have hcell := (hb.out.cell (p := ⟨b, off + k, none⟩) hbB).trans (hc k hcon)
      have hlt := HR.out.lt k
      have hnext : Hid (lms f (k + 1) = lms f k ++ be (f k) 4) := hid rfl
      generalize f k = x at *
      have hsz := hb.out.size
      have C := hid (putDigits_any (V := x) (z := 4) hO.out (Nat.le_trans hB hsz) (by rw [List.length_append, lms_length]; omega) (by omega) (by omega))
      clear hc
      go_wp2_with fail
      refine C.out.mono ?_
      rintro e w2 ⟨v2, rfl, hO2, hb2⟩
      go_wp2
      go_roundw
      case rel => exact ⟨k + 1, by omega, by go_num, hid (by rw [hnext.out, ← List.append_assoc]; exact hO2.out), hid (hb.out.trans hb2.out)⟩
      case measure => simp [intOf]; omega
    · obtain rfl : k = n := by omega
      go_wp2
      go_ret
      exact ⟨_, rfl, hO, hb⟩
end Go.Proofs.YtbankbehfjogpaaGreat
