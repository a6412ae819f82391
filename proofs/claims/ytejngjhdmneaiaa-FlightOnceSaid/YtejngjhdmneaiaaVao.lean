/- Flight, the program: twin, Twin; slices.Grow of nil, slices.Concat over loads. -/
/- Flight, the program: slices.Grow of nil, slices.Concat over loads; with. -/
import Derived.Test.YtejngjhdmneaiaaVal
import Derived.Test.YtejngjhdmneaiaaVam
import Derived.Lib.AppendZeros
import Derived.Laws.Cover3

namespace Go.Proofs.Ytejngjhdmneaiaa.Fli
set_option maxRecDepth 100000
open Go.RowKit Go.Shelf Go.Lib

/-- A mass's parts have 42 limbs at most. -/
def SzM (g : Pm) : Prop := g.1.2.1 ≤ 42 ∧ g.2.1.2.1 ≤ 42 ∧ g.2.2.1.2.1 ≤ 42 ∧ g.2.2.2.2.1 ≤ 42
theorem SzM.at_ {D : Nat → Dy} (h : SzM (pmd D)) : ∀ k, k < 4 → (D k).n ≤ 42 := by
  intro k hk
  have hc : k = 0 ∨ k = 1 ∨ k = 2 ∨ k = 3 := by omega
  rcases hc with rfl | rfl | rfl | rfl
  · exact h.1
  · exact h.2.1
  · exact h.2.2.1
  · exact h.2.2.2
theorem lcells_one (x y z : Int) (M : Nat → Dy) : (lcells x y z M).all (·.oneCell') = true := by simp [lcells, Value.oneCell']
theorem mcells_one (M : Nat → Dy) : (mcells M).all (·.oneCell') = true := by simp [mcells, Value.oneCell']
theorem lcells_put (x y z : Int) (M R : Nat → Dy) : ∀ k, k < (lcells x y z M).size → (lcells x y z R)[k]? = if 3 ≤ k ∧ k < 3 + (mcells R).size then (mcells R)[k - 3]? else (lcells x y z M)[k]? := by
  intro k hk
  have hk : k < 15 := hk
  have hc : k = 0 ∨ k = 1 ∨ k = 2 ∨ k = 3 ∨ k = 4 ∨ k = 5 ∨ k = 6 ∨ k = 7 ∨ k = 8 ∨ k = 9 ∨ k = 10 ∨ k = 11 ∨ k = 12 ∨ k = 13 ∨ k = 14 := by omega
  rcases hc with rfl | rfl | rfl | rfl | rfl | rfl | rfl | rfl | rfl | rfl | rfl | rfl | rfl | rfl | rfl <;> rfl
theorem massSize (M : Nat → Dy) : (Try.prog.info? 27).map (·.size) = some (mcells M).size := by kernel_rfl
theorem loadSize (x y z : Int) (M : Nat → Dy) : (Try.prog.info? 40).map (·.size) = some (lcells x y z M).size := by kernel_rfl
/-- A load is handed back out of its box. -/
theorem ret_load {fn : Func} {R : Ending → World → Prop} {a : Act} {w : World} {p : Tmp} {g : Nat} {x y z : Int} {M : Nat → Dy} (h : fn.results = #[.cell p 40]) (hp : a.tmps.getD p undef = .pointer (some ⟨g, 0, none⟩))
    (hd : a.defers = []) (hg : Lbx w g x y z M) (hR : R (.returned (.agg (lcells x y z M))) w) : bodyPost Try.prog fn R .ret a w := by
  refine bodyPost_ret ?_ hd hR
  have hp2 : a.tmps[p]?.getD undef = .pointer (some ⟨g, 0, none⟩) := by simpa using hp
  simp only [results, h]
  simp [hp2, asAddr, run_loadVar_row w g _ 40 _ _ _ hg Try.underlying40 rfl (loadSize x y z M)]
/-- What a load's twin is. -/
def TwlR (w : World) (p : Ld Pm) (e : Ending) (w' : World) : Prop := ∃ r : Lr, e = .returned (.agg (lcells r.1 r.2.1 r.2.2.1 r.2.2.2)) ∧ Hid (Low w.heap.size w' r p ∧ Below w.heap.size w w')
theorem lbx_row {w : World} {g : Nat} {x y z : Int} {M : Nat → Dy} (h : Lbx w g x y z M) : w.rangeAt g 0 (lcells x y z M).toList := fun t v hv => by
  rw [cell_of_row w _ _ _ _ (0, 0) h, Nat.zero_add]
  simpa using hv
set_option maxHeartbeats 3200000 in
theorem twin1_any {w : World} {B : Nat} {r : Lr} {p : Ld Pm} (h : Lrd w B r p) (hB : B ≤ w.heap.size) (hz : SzM p.2.2.2) :
    Calls Try.prog 61 #[.agg (lcells r.1 r.2.1 r.2.2.1 r.2.2.2)] w (TwlR w p) := by
  obtain ⟨x, y, z, M⟩ := r
  have HP := hid (show p = (x, y, z, pmd M) by
    obtain ⟨p1, p2, p3, p4⟩ := p
    have h1 := h.nu; have h2 := h.ep; have h3 := h.cp; have h4 := h.pl
    simp only at h1 h2 h3 h4
    rw [h1, h2, h3, h4])
  obtain ⟨W, hW⟩ : ∃ W, W = (w.alloc (.cells (lcells x y z M) 40)).alloc (.cells (lcells 0 0 0 D0) 40) := ⟨_, rfl⟩
  have B0 := hid (show Below w.heap.size w W from hW ▸ below_two w _ _)
  have X0 := hid (show Lbx W w.heap.size x y z M from hW ▸ (heap_two w _ _).1)
  have Y0 := hid (show Lbx W (w.heap.size + 1) 0 0 0 D0 from hW ▸ (heap_two w _ _).2)
  have Z0 := hid (show W.heap.size = w.heap.size + 1 + 1 by rw [hW]; simp)
  have xm := X0.out.mass
  have HT := hid (mtwin_any (w := W) (M := M) (fun k hk => ((h.rd k hk).mono hB).below B0.out |>.mono B0.out.size) h.nil (by
    have h4 := h.pl
    simp only at h4
    rw [← h4] at hz
    exact hz.at_))
  have HW := hid hW
  clear hW h hB hz
  go_enter Try.func61, Try.ntmps61
  go_upto_region 1 with fail
  have hW2 : (w.alloc (.cells (lcells x y z M) 40)).alloc (.cells #[.int .i64 0, .int .i64 0, .int .i64 0, .bool false, .slice none 0 0, .int .i64 0, .bool false, .slice none 0 0, .int .i64 0, .bool false, .slice none 0 0, .int .i64 0, .bool false, .slice none 0 0, .int .i64 0] 40) = W := HW.out.symm
  rw [hW2]
  clear hW2
  go_wp2_with (first | (refine wp_lm rfl (.tmp 3) rfl w.heap.size 3 M rfl xm ?_) | fail)
  refine HT.out.mono ?_
  rintro e w1 ⟨R, rfl, hR, h1⟩
  have B1 := hid (gbelow_on B0.out (Nat.le_refl _) h1.out)
  have X1 := hid (X0.out.below h1.out X0.out.lt)
  have Y1 := hid (Y0.out.below h1.out Y0.out.lt)
  clear xm
  go_wp2_with (first
    | (refine gput_mid (P := Try.prog) rfl _ (.tmp 6) (.tmp 5) rfl w.heap.size 3 40 _ (mcells R) (lcells x y z R) rfl rfl X1.out (show 3 + 12 ≤ 15 by decide) (massSize R) (mcells_one R) rfl (lcells_put x y z M R) ?_
       intro w3 x3 q3
       have X3 := hid (show Lbx w3 w.heap.size x y z R from x3)
       have x3r := lbx_row X3.out
       have Y3 := hid (show Lbx w3 (w.heap.size + 1) 0 0 0 D0 from q3.at Y1.out (by omega))
       have B3 := hid (q3.bel B1.out (Nat.le_refl _))
       have K3 := hid q3
       clear x3 q3)
    | (refine wp_lload rfl (.tmp 1) rfl w.heap.size 0 x y z R rfl x3r ?_)
    | (refine gput_row (P := Try.prog) rfl _ (.tmp 2) (.tmp 7) rfl (w.heap.size + 1) 40 _ (lcells x y z R) rfl rfl Y3.out rfl (loadSize x y z R) (lcells_one x y z R) ?_
       intro w4 x4 q4
       have B4 := hid (q4.bel B3.out (Nat.le_succ _))
       have T4 := hid (show Low w.heap.size w4 (x, y, z, R) p from by
         rw [HP.out]
         have hk : Keep32 W.heap.size w1 w4 := fun g cs hg hc => (q4.block g (by have := Z0.out; omega)).trans (K3.out.block g (by have := Z0.out; omega))
         refine ⟨rfl, rfl, rfl, ?_, fun k hk4 => ?_⟩
         · have hd : ∀ k, k < 4 → pdy (R k) = pdy (M k) := fun k hk4 => by
             have := hR.out k hk4
             unfold pdy
             rw [this.s, this.n, this.x, this.f]
           show pmd R = pmd M
           unfold pmd
           rw [hd 0 (by omega), hd 1 (by omega), hd 2 (by omega), hd 3 (by omega)]
         · exact (Mk.keep32 (hR.out k hk4).lim hk).mono (by have := Z0.out; omega)))
    | fail)
  refine ret_load (g := w.heap.size + 1) (x := x) (y := y) (z := z) (M := R) rfl rfl rfl x4 ?_
  exact ⟨(x, y, z, R), rfl, hid ⟨T4.out, B4.out⟩⟩

/-- Loads' masses are small. -/
def SzL (l : List (Ld Pm)) : Prop := l.length ≤ 1000 ∧ ∀ p ∈ l, SzM p.2.2.2
/-- What Twin leaves. -/
def TwsR (w : World) (l : List (Ld Pm)) (e : Ending) (w' : World) : Prop := ∃ v rs, e = .returned v ∧ Hid (Lof w.heap.size w' v rs l ∧ Below w.heap.size w w')
theorem take_ld {l : List (Ld Pm)} {k : Nat} {p : Ld Pm} (h : l[k]? = some p) : l.take (k + 1) = l.take k ++ [p] := by
  rw [List.take_add_one, h]
  rfl
set_option maxHeartbeats 3200000 in
theorem ptwin_any {w : World} {B n c : Nat} {A : Option Addr} {l : List (Ld Pm)} (h : Lls w B A n c l) (hB : B ≤ w.heap.size) (hz : SzL l) :
    Calls Try.prog 57 #[.slice A n c] w (TwsR w l) := by
  have H := hid (h.mono hB)
  have hm := h.max
  have hcap := h.cap
  have HL := hid h.len
  have HZ := hid hz
  clear h hz
  go_enter Try.func57, Try.ntmps57
  go_wp2
  go_loopg [3, 8] n (fun gg s3 s8 wr => ∃ (kk : Nat) (v : Value) (rs : List Lr), kk ≤ n ∧ n - kk ≤ gg ∧ s8 = .int .i64 kk ∧ v = s3 ∧ Hid (Lof w.heap.size wr v rs (l.take kk)) ∧ Hid (Below w.heap.size w wr))
  case atStart => exact ⟨0, _, [], Nat.zero_le _, by omega, rfl, rfl, hid (by rw [List.take_zero]; exact Lof.nil _ _), hid (Below.refl _ _)⟩
  case round =>
    obtain ⟨kk, v, rs, hkk, hg, rfl, rfl, HI, BW⟩ := hrel
    by_cases hlt : kk < n
    · have hltz : (kk : Int) < (n : Int) := by omega
      obtain ⟨b, off, r, p, rfl, hb, hp, hr, hc⟩ := (H.out.below BW.out).get hlt
      have HP := hid hp
      have HZp := hid (HZ.out.2 p (List.mem_of_getElem? hp))
      have HLn := hid (show (l.take kk).length + 1 ≤ 1000 by rw [List.length_take]; have := HZ.out.1; have := HL.out; omega)
      have hsz := BW.out.size
      have HT := hid (fun (X : World) (hX : Below wr.heap.size wr X) => twin1_any (w := X) (hr.below (hX.mono hsz)) (Nat.le_trans hsz hX.size) HZp.out)
      obtain ⟨x, y, z, R⟩ := r
      have HX := hid (show wr.rangeAt b (off + kk * 15) (lcells x y z R).toList from fun t v hv => by rw [Nat.add_assoc]; exact hc t v hv)
      have HAl := hid (fun (o : Obj) => (Below.refl wr.heap.size wr).alloc (Nat.le_refl _) o)
      clear hr hp hc
      go_wp2_with (first
        | (refine wp_lload rfl (.tmp 10) rfl b (off + kk * 15) x y z R rfl HX.out ?_)
        | (go_at_call 61
           refine (HT.out _ (HAl.out _)).mono ?_
           rintro e w3 ⟨⟨x', y', z', R'⟩, rfl, h3⟩
           have B3 := hid (gbelow_on (HAl.out (.cells (lcells x y z R) 40)) (Nat.le_refl _) h3.out.2)
           have T3 := hid (h3.out.1.mono (C := w.heap.size) (Nat.le_trans hsz (HAl.out (.cells (lcells x y z R) 40)).size))
           have b4 := hid ((Below.refl w3.heap.size w3).alloc (Nat.le_refl _) (.cells (lcells x' y' z' R') 40))
           have I4 := hid (HI.out.below (gbelow_on B3.out (Nat.le_refl _) b4.out))
           have T4 := hid (T3.out.below b4.out)
           have B4 := hid (gbelow_on (gbelow_on BW.out (Nat.le_refl _) B3.out) (Nat.le_refl _) b4.out)
           have G4 := hid (Gs.new (cs := cellsL [(x', y', z', R')]) (k := 15) (n := 1) (c := 1) (B := w3.heap.size + 1) (heap_alloc_new w3 (.cells (lcells x' y' z' R') 40)) (Nat.lt_succ_self _) rfl (Nat.le_refl _) (by omega))
           clear h3)
        | (at_builtin
           refine list_appG rfl _ _ rfl Try.underlying22 infoLd rfl (by decide) (by decide) rfl rfl I4.out.row G4.out (cellsL_one _) (Nat.le_trans HLn.out (by decide)) B4.out.size ?_
           intro v5 w5 T5
           have I5 := hid (I4.out.snoc T5.out T4.out)
           have B5 := hid (B4.out.trans (T5.out.below I4.out.row B4.out.size)))
        | fail)
      go_roundg (n - (kk + 1))
      case measure => omega
      case rel => exact ⟨kk + 1, v5, _, by omega, by omega, by go_num, rfl, hid (by rw [take_ld HP.out]; exact I5.out), B5⟩
    · have hltz : ¬ (kk : Int) < (n : Int) := by omega
      obtain rfl : kk = n := by omega
      have HE := hid (show Lof w.heap.size wr v rs l by have := HI.out; rwa [List.take_of_length_le (by rw [HL.out]; exact Nat.le_refl _)] at this)
      go_wp2
      go_ret
      exact ⟨v, rs, rfl, hid ⟨HE.out, BW.out⟩⟩
end Go.Proofs.Ytejngjhdmneaiaa.Fli


namespace Go.Proofs.Ytejngjhdmneaiaa.Fli
set_option maxRecDepth 100000
open Go.RowKit Go.Shelf Go.Lib

set_option maxHeartbeats 1600000 in
theorem grow_nil (n : Nat) (hn : n ≤ 100000) (w : World) :
    Calls Try.prog 70 #[.slice none 0 0, .int .i64 n] w fun e w' => ∃ v, e = .returned v ∧ Hid (Gw w' w.heap.size 40 15 v 0 [] ∧ Below w.heap.size w w') := by
  rcases Nat.eq_zero_or_pos n with h0 | h0
  · subst h0
    go_enter Try.func70, Try.ntmps70
    go_wp2
    go_ret
    exact ⟨_, rfl, hid ⟨Gw.nil _ _ _ _, Below.refl _ _⟩⟩
  · obtain ⟨i0, hi0, hz0, hzs, hzb⟩ := info_parts infoLd
    obtain ⟨G, hG⟩ : ∃ G, G = grownCap w n 0 40 := ⟨_, rfl⟩
    have hGn : n ≤ G := by rw [hG]; exact grownCap_ge w _ _ _
    have hGm : G ≤ maxLen := by rw [hG]; exact grownCap_le_maxLen w n 0 40 (by unfold maxLen; omega)
    obtain ⟨ROW, hROW⟩ : ∃ ROW : Array Value, ROW = Builtin.zeroCells (Value.agg (lcells 0 0 0 D0)).cells n ++ Builtin.zeroCells (Value.agg (lcells 0 0 0 D0)).cells (G - n) := ⟨_, rfl⟩
    have hrz : ∀ ty, (Builtin.append_ #[22, 3] ty #[.slice none 0 0, .int .i64 (n : Int)]).run Try.prog w =
        .ok (.slice (some ⟨w.heap.size, 0, none⟩) n G) (w.drew.alloc (.cells ROW 40)) := fun ty => by
      have h := Lib.run_append_nil_zeros w 22 3 ty 40 i0 _ .i64 .i64 Try.underlying22 Try.underlying3 hi0 hz0 n h0 (by omega) (by omega) (by rw [hzb]; omega)
      rw [← hG, ← hROW] at h
      exact h
    have hRs : ROW.size = G * 15 := by
      rw [hROW, Array.size_append, size_zeroCells, size_zeroCells]
      show n * 15 + (G - n) * 15 = G * 15
      omega
    have HR : Hid (Gw (w.drew.alloc (.cells ROW 40)) w.heap.size 40 15 (.slice (some ⟨w.heap.size, 0, none⟩) 0 G) 0 [] ∧ Below w.heap.size w (w.drew.alloc (.cells ROW 40))) := hid ⟨Gw.none' (heap_alloc_new w.drew _) (Nat.le_refl _) hGm hRs, ((Below.refl _ w).drew).alloc (Nat.le_refl _) _⟩
    have hG63 : G ≤ 9223372036854775807 := by unfold maxLen at hGm; omega
    have hgt : (n : Int) > 0 := by omega
    have hng : ¬ (n : Int) < 0 := by omega
    have hG0 : ¬ (G = 0) := by omega
    clear hRs hROW hG
    go_enter Try.func70, Try.ntmps70
    go_wp2_with (at_builtin; refine Lib.wpList_append_run _ rfl _ _ _ _ rfl _ _ rfl rfl _ _ (hrz _) ?_)
    go_ret
    exact ⟨_, rfl, HR⟩

/-- The first j rows of loads, put together. -/
def catsL (L : Nat → List Lr) : Nat → List Lr
  | 0 => []
  | j + 1 => catsL L j ++ L j
theorem catsL_le (L : Nat → List Lr) {j k : Nat} (h : j ≤ k) : (catsL L j).length ≤ (catsL L k).length := by
  induction k with
  | zero => obtain rfl : j = 0 := by omega
            exact Nat.le_refl _
  | succ k ih =>
    rcases Nat.lt_or_ge k j with h1 | h1
    · obtain rfl : j = k + 1 := by omega
      exact Nat.le_refl _
    · have := ih h1
      rw [show catsL L (k + 1) = catsL L k ++ L k from rfl, List.length_append]
      omega
theorem gs_rows {w : World} {B n c : Nat} {A : Option Addr} {rs : List Lr} (h : Gs w B A n c 15 (cellsL rs)) : rs.length = n := by
  have := h.len
  rw [cellsL_length] at this
  omega
set_option maxHeartbeats 3200000 in
theorem concat_any {w : World} {b off k c : Nat} (S : Nat → Option Addr × Nat × Nat) (L : Nat → List Lr) (h : ∀ j, j < k → w.cell? ⟨b, off + j, none⟩ = some (.slice (S j).1 (S j).2.1 (S j).2.2) ∧ Gs w w.heap.size (S j).1 (S j).2.1 (S j).2.2 15 (cellsL (L j))) (hb : b < w.heap.size) (hk : k ≤ 1000) (hkc : k ≤ c) (hs : (catsL L k).length ≤ 100000) :
    Calls Try.prog 58 #[.slice (some ⟨b, off, none⟩) k c] w fun e w' => ∃ v, e = .returned v ∧ Hid (Gw w' w.heap.size 40 15 v (catsL L k).length (cellsL (catsL L k)) ∧ Below w.heap.size w w') := by
  have H := hid h
  have HS := hid hs
  have Hb := hid hb
  clear h hs
  go_enter Try.func58, Try.ntmps58
  go_wp2
  go_loopg [3, 5, 11] k (fun gg s3 _ s11 wr => ∃ kk : Nat, kk ≤ k ∧ k - kk ≤ gg ∧ s11 = .int .i64 kk ∧ s3 = .int .i64 ((catsL L kk).length : Nat) ∧ Hid (Below w.heap.size w wr))
  case atStart => exact ⟨0, Nat.zero_le _, by omega, rfl, rfl, hid (Below.refl _ w)⟩
  case round =>
    obtain ⟨kk, hkk, hg, rfl, rfl, BW⟩ := hrel
    obtain ⟨a, ha⟩ : ∃ a, a = (catsL L kk).length := ⟨_, rfl⟩
    rw [← ha]
    by_cases hlt : kk < k
    · have hltz : (kk : Int) < (k : Int) := by omega
      obtain ⟨hc, hD⟩ := H.out kk hlt
      have hcell := (BW.out.cell (p := ⟨b, off + kk, none⟩) hb).trans hc
      have hlen := gs_rows hD
      have hmx := hD.max
      have hle := catsL_le L (show kk + 1 ≤ k by omega)
      have hnx : (catsL L (kk + 1)).length = a + (S kk).2.1 := by
        rw [show catsL L (kk + 1) = catsL L kk ++ L kk from rfl, List.length_append, ← ha, hlen]
      have hle2 := HS.out
      obtain ⟨⟨A, n, cc⟩, hS⟩ : ∃ x, x = S kk := ⟨_, rfl⟩
      rw [← hS] at hcell hnx
      change wr.cell? ⟨b, off + kk, none⟩ = some (.slice A n cc) at hcell
      have hsum : a + n ≤ 100000 := by rw [hnx] at hle; exact Nat.le_trans hle hle2
      have hng : ¬ ((a : Int) + (n : Int) < 0) := by omega
      have HN := hid hnx
      clear hc hD hlen hmx hle hnx hle2 hS ha
      go_wp2
      go_roundg (k - (kk + 1))
      case measure => omega
      case rel =>
        refine ⟨kk + 1, by omega, by omega, by go_num, ?_, BW⟩
        rw [HN.out]
        go_num
    · have hltz : ¬ (kk : Int) < (k : Int) := by omega
      obtain rfl : kk = k := by omega
      have HG := hid (grow_nil a (by have := HS.out; omega) wr)
      have HBW := hid BW.out.size
      clear ha
      go_wp2_with (first | (go_at_call 70; refine HG.out.mono ?_; rintro e w1 ⟨v1, rfl, HV⟩) | go_in)
      go_loopg [6, 8, 27] kk (fun gg s6 _ s27 wx => ∃ i : Nat, i ≤ kk ∧ kk - i ≤ gg ∧ s27 = .int .i64 i ∧ Hid (Gw wx w.heap.size 40 15 s6 (catsL L i).length (cellsL (catsL L i)) ∧ Below w.heap.size w wx))
      case atStart => exact ⟨0, Nat.zero_le _, by omega, rfl, hid ⟨HV.out.1.mono HBW.out, BW.out.trans (HV.out.2.mono HBW.out)⟩⟩
      case round =>
        obtain ⟨i, hi, hg, rfl, HI⟩ := hrel
        by_cases hlt : i < kk
        · have hltz : (i : Int) < (kk : Int) := by omega
          obtain ⟨hc, hD⟩ := H.out i hlt
          have hcell := (HI.out.2.cell (p := ⟨b, off + i, none⟩) hb).trans hc
          have hle := catsL_le L (show i + 1 ≤ kk by omega)
          have hnx : (catsL L (i + 1)).length = (catsL L i).length + (S i).2.1 := by
            rw [show catsL L (i + 1) = catsL L i ++ L i from rfl, List.length_append, gs_rows hD]
          have hle2 := HS.out
          have hDs := hD.below HI.out.2
          have hmx := hD.max
          have hcap := hD.cap
          obtain ⟨⟨A, n, cc⟩, hS⟩ : ∃ x, x = S i := ⟨_, rfl⟩
          rw [← hS] at hcell hnx hDs hmx hcap
          change wr.cell? ⟨b, off + i, none⟩ = some (.slice A n cc) at hcell
          change Gs wr w.heap.size A n cc 15 (cellsL (L i)) at hDs
          have HSum : Hid ((catsL L i).length + n ≤ 100000) := hid (by rw [hnx] at hle; exact Nat.le_trans hle hle2)
          have HDs := hid hDs
          have HN := hid hnx
          clear hc hD hle hnx hle2 hS hDs
          go_wp2_with (first
            | (at_builtin; refine list_appG rfl _ _ rfl Try.underlying22 infoLd rfl (by decide) (by decide) rfl rfl HI.out.1 HDs.out (cellsL_one _) HSum.out HI.out.2.size ?_; intro v' w' HT)
            | go_in)
          have HT := hid HT
          go_roundg (kk - (i + 1))
          case measure => omega
          case rel =>
            refine ⟨i + 1, by omega, by omega, by go_num, hid ⟨?_, HI.out.2.trans (HT.out.out.below HI.out.1 HI.out.2.size)⟩⟩
            have := HT.out.out.own
            rw [← cellsL_append] at this
            rw [HN.out]
            exact this
        · have hltz : ¬ (i : Int) < (kk : Int) := by omega
          obtain rfl : i = kk := by omega
          go_wp2
          go_ret
          exact ⟨_, rfl, HI⟩
end Go.Proofs.Ytejngjhdmneaiaa.Fli

