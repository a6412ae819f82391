/- Loads of a call's own memory. -/
/- Flight, the program: twin, Twin; slices.Grow of nil, slices.Concat over loads. -/
/- Loads, plainly: put together out of the places ahead, others, and the places behind. No program is named here. -/
import Derived.Test.YtdcolnipdipkhaaVaj
import Derived.Test.YtdcolnipdipkhaaVak
import Derived.Test.YtdcolnipdipkhaaVai
import Derived.Lib.AppendZeros
import Derived.Test.YtdcolnipdipkhaaVaa

namespace Go.Proofs.Ytdcolnipdipkhaa.Fli
open Go.RowKit Go.Shelf Go.Lib

theorem infoLd : (Try.prog.info? 40).map (fun i => (i.zero, i.size, i.bytes)) = some (some (.agg (lcells 0 0 0 D0)), 15, 184) := by kernel_rfl
theorem sizeLd : (Try.prog.info? 40).map (·.size) = some 15 := by kernel_rfl
/-- A load of the call's own: its limbs lie from block B on. -/
structure Low (B : Nat) (w : World) (r : Lr) (p : Ld Pm) : Prop where
  nu : r.1 = p.1
  ep : r.2.1 = p.2.1
  cp : r.2.2.1 = p.2.2.1
  pl : pmd r.2.2.2 = p.2.2.2
  lim : ∀ k, k < 4 → Mk w 70 B (r.2.2.2 k).A (r.2.2.2 k).n (r.2.2.2 k).c (r.2.2.2 k).f
section
variable {w w' : World} {B : Nat} {r : Lr} {p : Ld Pm}
theorem Low.lrd (h : Low B w r p) : Lrd w w.heap.size r p := ⟨h.nu, h.ep, h.cp, h.pl, fun k hk => (h.lim k hk).rd, fun k hk => (h.lim k hk).nil_of⟩
theorem Low.below (h : Low B w r p) (hb : Below w.heap.size w w') : Low B w' r p := ⟨h.nu, h.ep, h.cp, h.pl, fun k hk => (h.lim k hk).below hb (Nat.le_refl _)⟩
theorem Low.mono {C : Nat} (h : Low B w r p) (hC : C ≤ B) : Low C w r p := ⟨h.nu, h.ep, h.cp, h.pl, fun k hk => (h.lim k hk).mono hC⟩
end
/-- Rows of cells of uint32 stay. -/
def Keep32 (B : Nat) (w w' : World) : Prop := ∀ g cs, B ≤ g → w.heap[g]? = some (.cells cs 70 (0, 0)) → w'.heap[g]? = w.heap[g]?
theorem Keep32.below {B : Nat} {w w' : World} (h : Below w.heap.size w w') : Keep32 B w w' := fun g _ _ hg => h.block g (lt_of_heap hg)
theorem Mk.keep32 {w w' : World} {B n c : Nat} {A : Option Addr} {f : Nat → Nat} (h : Mk w 70 B A n c f) (k : Keep32 B w w') : Mk w' 70 B A n c f := by
  refine ⟨h.cap, h.max, h.lt, h.out, ?_⟩
  rcases h.own with h0 | ⟨g, cs, hA, hg, hc, hs⟩
  · exact .inl h0
  · exact .inr ⟨g, cs, hA, hg, (k g cs hg hc).trans hc, hs⟩
theorem Low.keep {w w' : World} {B : Nat} {r : Lr} {p : Ld Pm} (h : Low B w r p) (k : Keep32 B w w') : Low B w' r p := ⟨h.nu, h.ep, h.cp, h.pl, fun j hj => Mk.keep32 (h.lim j hj) k⟩
theorem Gw.blk {w : World} {B k n : Nat} {e : TypeId} {v : Value} {cs : List Value} (h : Gw w B e k v n cs) : ∀ q, v.ownBlock = some q → ∃ cur, w.heap[q]? = some (.cells cur e (0, 0)) := by
  obtain ⟨⟨hl, hor⟩, hm⟩ := h
  intro q hq
  rcases hor with ⟨rfl, h0⟩ | ⟨g, cap, cur, rfl, hB, hg, hn, hc, hs, ht⟩
  · cases hq
  · injection hq with hq
    subst hq
    exact ⟨cur, hg⟩
/-- A change of a row of loads leaves limbs alone. -/
theorem Keep32.grown {B C n : Nat} {w w' : World} {v : Value} {cs : List Value} (hO : Gw w C 40 15 v n cs) (h : w.grownBy w' v.ownBlock) : Keep32 B w w' := fun g cur _ hg =>
  h.block g (lt_of_heap hg) (fun e => by
    obtain ⟨cur', hc⟩ := Gw.blk hO g e.symm
    rw [hg] at hc
    injection hc with hc
    injection hc with _ ht _
    exact absurd ht (by decide))
/-- Loads of the call's own, one by one. -/
def PairO (B : Nat) (w : World) (rs : List Lr) (l : List (Ld Pm)) : Prop := rs.length = l.length ∧ ∀ (j : Nat) (r : Lr) (p : Ld Pm), rs[j]? = some r → l[j]? = some p → Low B w r p
section
variable {w w' : World} {B : Nat} {rs : List Lr} {l : List (Ld Pm)}
theorem PairO.nil (B : Nat) (w : World) : PairO B w [] [] := ⟨rfl, by simp⟩
theorem PairO.keep (h : PairO B w rs l) (k : Keep32 B w w') : PairO B w' rs l := ⟨h.1, fun j r p h1 h2 => (h.2 j r p h1 h2).keep k⟩
theorem PairO.below (h : PairO B w rs l) (hb : Below w.heap.size w w') : PairO B w' rs l := h.keep (Keep32.below hb)
theorem PairO.mono {C : Nat} (h : PairO B w rs l) (hC : C ≤ B) : PairO C w rs l := ⟨h.1, fun j r p h1 h2 => (h.2 j r p h1 h2).mono hC⟩
theorem PairO.pair (h : PairO B w rs l) : PairL w w.heap.size rs l := ⟨h.1, fun j r p h1 h2 => (h.2 j r p h1 h2).lrd⟩
theorem PairO.snoc {r : Lr} {p : Ld Pm} (h : PairO B w rs l) (k : Low B w r p) : PairO B w (rs ++ [r]) (l ++ [p]) := by
  refine ⟨by rw [List.length_append, List.length_append, h.1]; rfl, fun j a b ha hb => ?_⟩
  rcases Nat.lt_or_ge j rs.length with hj | hj
  · rw [List.getElem?_append_left hj] at ha
    rw [List.getElem?_append_left (by rw [← h.1]; exact hj)] at hb
    exact h.2 j a b ha hb
  · have hj1 := (List.getElem?_eq_some_iff.1 ha).1
    simp at hj1
    obtain rfl : j = rs.length := by omega
    rw [List.getElem?_append_right (Nat.le_refl _), Nat.sub_self] at ha
    rw [List.getElem?_append_right (by rw [h.1]; exact Nat.le_refl _), h.1, Nat.sub_self] at hb
    simp at ha hb
    subst ha hb
    exact k
end
/-- A slice of loads of the call's own, from block B on. -/
structure Lof (B : Nat) (w : World) (v : Value) (rs : List Lr) (l : List (Ld Pm)) : Prop where
  row : Gw w B 40 15 v l.length (cellsL rs)
  pair : PairO B w rs l
section
variable {w w' : World} {B : Nat} {v : Value} {rs : List Lr} {l : List (Ld Pm)}
theorem Lof.nil (B : Nat) (w : World) : Lof B w (.slice none 0 0) [] [] := ⟨Gw.nil _ _ _ _, PairO.nil _ _⟩
theorem Lof.below (h : Lof B w v rs l) (hb : Below w.heap.size w w') : Lof B w' v rs l := ⟨h.row.below hb, h.pair.below hb⟩
theorem Lof.mono {C : Nat} (h : Lof B w v rs l) (hC : C ≤ B) : Lof C w v rs l := ⟨h.row.mono hC, h.pair.mono hC⟩
theorem Lof.form (h : Lof B w v rs l) : ∃ A c, v = .slice A l.length c ∧ Lls w w.heap.size A l.length c l := by
  obtain ⟨A, c, e, hg, _⟩ := h.row.form
  exact ⟨A, c, e, rs, hg, h.pair.pair⟩
/-- One more load of its own is appended. -/
theorem Lof.snoc {v' : Value} {r : Lr} {p : Ld Pm} (h : Lof B w v rs l) (ht : TurnG w w' B 40 15 v v' (l.length + 1) (cellsL rs ++ cellsL [r])) (k : Low B w r p) : Lof B w' v' (rs ++ [r]) (l ++ [p]) := by
  have hk : Keep32 B w w' := Keep32.grown h.row ht.grown
  refine ⟨?_, (h.pair.keep hk).snoc (k.keep hk)⟩
  have := ht.own
  rw [← cellsL_append] at this
  rwa [List.length_append]
end
end Go.Proofs.Ytdcolnipdipkhaa.Fli


namespace Go.Proofs.Ytdcolnipdipkhaa.Fli
set_option maxRecDepth 100000
open Go.RowKit Go.Shelf Go.Lib

/-- A mass's parts have 42 limbs at most. -/
def SzM (g : Pm) : Prop := g.1.2.1 ≤ 42 ∧ g.2.1.2.1 ≤ 42 ∧ g.2.2.1.2.1 ≤ 42 ∧ g.2.2.2.2.1 ≤ 42
theorem SzM.at_ {D : Nat → Dy} (h : SzM (pmd D)) : ∀ k, k < 4 → (D k).n ≤ 42 := by
  intro k hk
  have hc : k = 0 ∨ k = 1 ∨ k = 2 ∨ k = 3 := by omega
  rcases hc with rfl | rfl | rfl | rfl
  · exact h.1
  · exact h.2.1
  · exact h.2.2.1
  · exact h.2.2.2
theorem lcells_one (x y z : Int) (M : Nat → Dy) : (lcells x y z M).all (·.oneCell') = true := by simp [lcells, Value.oneCell']
theorem mcells_one (M : Nat → Dy) : (mcells M).all (·.oneCell') = true := by simp [mcells, Value.oneCell']
theorem lcells_put (x y z : Int) (M R : Nat → Dy) : ∀ k, k < (lcells x y z M).size → (lcells x y z R)[k]? = if 3 ≤ k ∧ k < 3 + (mcells R).size then (mcells R)[k - 3]? else (lcells x y z M)[k]? := by
  intro k hk
  have hk : k < 15 := hk
  have hc : k = 0 ∨ k = 1 ∨ k = 2 ∨ k = 3 ∨ k = 4 ∨ k = 5 ∨ k = 6 ∨ k = 7 ∨ k = 8 ∨ k = 9 ∨ k = 10 ∨ k = 11 ∨ k = 12 ∨ k = 13 ∨ k = 14 := by omega
  rcases hc with rfl | rfl | rfl | rfl | rfl | rfl | rfl | rfl | rfl | rfl | rfl | rfl | rfl | rfl | rfl <;> rfl
theorem massSize (M : Nat → Dy) : (Try.prog.info? 27).map (·.size) = some (mcells M).size := by kernel_rfl
theorem loadSize (x y z : Int) (M : Nat → Dy) : (Try.prog.info? 40).map (·.size) = some (lcells x y z M).size := by kernel_rfl
/-- A load is handed back out of its box. -/
theorem ret_load {fn : Func} {R : Ending → World → Prop} {a : Act} {w : World} {p : Tmp} {g : Nat} {x y z : Int} {M : Nat → Dy} (h : fn.results = #[.cell p 40]) (hp : a.tmps.getD p undef = .pointer (some ⟨g, 0, none⟩))
    (hd : a.defers = []) (hg : Lbx w g x y z M) (hR : R (.returned (.agg (lcells x y z M))) w) : bodyPost Try.prog fn R .ret a w := by
  refine bodyPost_ret ?_ hd hR
  have hp2 : a.tmps[p]?.getD undef = .pointer (some ⟨g, 0, none⟩) := by simpa using hp
  simp only [results, h]
  simp [hp2, asAddr, run_loadVar_row w g _ 40 _ _ _ hg Try.underlying40 rfl (loadSize x y z M)]
/-- What a load's twin is. -/
def TwlR (w : World) (p : Ld Pm) (e : Ending) (w' : World) : Prop := ∃ r : Lr, e = .returned (.agg (lcells r.1 r.2.1 r.2.2.1 r.2.2.2)) ∧ Hid (Low w.heap.size w' r p ∧ Below w.heap.size w w')
theorem lbx_row {w : World} {g : Nat} {x y z : Int} {M : Nat → Dy} (h : Lbx w g x y z M) : w.rangeAt g 0 (lcells x y z M).toList := fun t v hv => by
  rw [cell_of_row w _ _ _ _ (0, 0) h, Nat.zero_add]
  simpa using hv
set_option maxHeartbeats 3200000 in
theorem twin1_any {w : World} {B : Nat} {r : Lr} {p : Ld Pm} (h : Lrd w B r p) (hB : B ≤ w.heap.size) (hz : SzM p.2.2.2) :
    Calls Try.prog 49 #[.agg (lcells r.1 r.2.1 r.2.2.1 r.2.2.2)] w (TwlR w p) := by
  obtain ⟨x, y, z, M⟩ := r
  have HP := hid (show p = (x, y, z, pmd M) by
    obtain ⟨p1, p2, p3, p4⟩ := p
    have h1 := h.nu; have h2 := h.ep; have h3 := h.cp; have h4 := h.pl
    simp only at h1 h2 h3 h4
    rw [h1, h2, h3, h4])
  obtain ⟨W, hW⟩ : ∃ W, W = (w.alloc (.cells (lcells x y z M) 40)).alloc (.cells (lcells 0 0 0 D0) 40) := ⟨_, rfl⟩
  have B0 := hid (show Below w.heap.size w W from hW ▸ below_two w _ _)
  have X0 := hid (show Lbx W w.heap.size x y z M from hW ▸ (heap_two w _ _).1)
  have Y0 := hid (show Lbx W (w.heap.size + 1) 0 0 0 D0 from hW ▸ (heap_two w _ _).2)
  have Z0 := hid (show W.heap.size = w.heap.size + 1 + 1 by rw [hW]; simp)
  have xm := X0.out.mass
  have HT := hid (mtwin_any (w := W) (M := M) (fun k hk => ((h.rd k hk).mono hB).below B0.out |>.mono B0.out.size) h.nil (by
    have h4 := h.pl
    simp only at h4
    rw [← h4] at hz
    exact hz.at_))
  have HW := hid hW
  clear hW h hB hz
  go_enter Try.func49, Try.ntmps49
  go_upto_region 1 with fail
  have hW2 : (w.alloc (.cells (lcells x y z M) 40)).alloc (.cells #[.int .i64 0, .int .i64 0, .int .i64 0, .bool false, .slice none 0 0, .int .i64 0, .bool false, .slice none 0 0, .int .i64 0, .bool false, .slice none 0 0, .int .i64 0, .bool false, .slice none 0 0, .int .i64 0] 40) = W := HW.out.symm
  rw [hW2]
  clear hW2
  go_wp2_with (first | (refine wp_lm rfl (.tmp 3) rfl w.heap.size 3 M rfl xm ?_) | fail)
  refine HT.out.mono ?_
  rintro e w1 ⟨R, rfl, hR, h1⟩
  have B1 := hid (gbelow_on B0.out (Nat.le_refl _) h1.out)
  have X1 := hid (X0.out.below h1.out X0.out.lt)
  have Y1 := hid (Y0.out.below h1.out Y0.out.lt)
  clear xm
  go_wp2_with (first
    | (refine gput_mid (P := Try.prog) rfl _ (.tmp 6) (.tmp 5) rfl w.heap.size 3 40 _ (mcells R) (lcells x y z R) rfl rfl X1.out (show 3 + 12 ≤ 15 by decide) (massSize R) (mcells_one R) rfl (lcells_put x y z M R) ?_
       intro w3 x3 q3
       have X3 := hid (show Lbx w3 w.heap.size x y z R from x3)
       have x3r := lbx_row X3.out
       have Y3 := hid (show Lbx w3 (w.heap.size + 1) 0 0 0 D0 from q3.at Y1.out (by omega))
       have B3 := hid (q3.bel B1.out (Nat.le_refl _))
       have K3 := hid q3
       clear x3 q3)
    | (refine wp_lload rfl (.tmp 1) rfl w.heap.size 0 x y z R rfl x3r ?_)
    | (refine gput_row (P := Try.prog) rfl _ (.tmp 2) (.tmp 7) rfl (w.heap.size + 1) 40 _ (lcells x y z R) rfl rfl Y3.out rfl (loadSize x y z R) (lcells_one x y z R) ?_
       intro w4 x4 q4
       have B4 := hid (q4.bel B3.out (Nat.le_succ _))
       have T4 := hid (show Low w.heap.size w4 (x, y, z, R) p from by
         rw [HP.out]
         have hk : Keep32 W.heap.size w1 w4 := fun g cs hg hc => (q4.block g (by have := Z0.out; omega)).trans (K3.out.block g (by have := Z0.out; omega))
         refine ⟨rfl, rfl, rfl, ?_, fun k hk4 => ?_⟩
         · have hd : ∀ k, k < 4 → pdy (R k) = pdy (M k) := fun k hk4 => by
             have := hR.out k hk4
             unfold pdy
             rw [this.s, this.n, this.x, this.f]
           show pmd R = pmd M
           unfold pmd
           rw [hd 0 (by omega), hd 1 (by omega), hd 2 (by omega), hd 3 (by omega)]
         · exact (Mk.keep32 (hR.out k hk4).lim hk).mono (by have := Z0.out; omega)))
    | fail)
  refine ret_load (g := w.heap.size + 1) (x := x) (y := y) (z := z) (M := R) rfl rfl rfl x4 ?_
  exact ⟨(x, y, z, R), rfl, hid ⟨T4.out, B4.out⟩⟩

/-- Loads' masses are small. -/
def SzL (l : List (Ld Pm)) : Prop := l.length ≤ 1000 ∧ ∀ p ∈ l, SzM p.2.2.2
/-- What Twin leaves. -/
def TwsR (w : World) (l : List (Ld Pm)) (e : Ending) (w' : World) : Prop := ∃ v rs, e = .returned v ∧ Hid (Lof w.heap.size w' v rs l ∧ Below w.heap.size w w')
theorem take_ld {l : List (Ld Pm)} {k : Nat} {p : Ld Pm} (h : l[k]? = some p) : l.take (k + 1) = l.take k ++ [p] := by
  rw [List.take_add_one, h]
  rfl
set_option maxHeartbeats 3200000 in
theorem ptwin_any {w : World} {B n c : Nat} {A : Option Addr} {l : List (Ld Pm)} (h : Lls w B A n c l) (hB : B ≤ w.heap.size) (hz : SzL l) :
    Calls Try.prog 45 #[.slice A n c] w (TwsR w l) := by
  have H := hid (h.mono hB)
  have hm := h.max
  have hcap := h.cap
  have HL := hid h.len
  have HZ := hid hz
  clear h hz
  go_enter Try.func45, Try.ntmps45
  go_wp2
  go_loopg [3, 8] n (fun gg s3 s8 wr => ∃ (kk : Nat) (v : Value) (rs : List Lr), kk ≤ n ∧ n - kk ≤ gg ∧ s8 = .int .i64 kk ∧ v = s3 ∧ Hid (Lof w.heap.size wr v rs (l.take kk)) ∧ Hid (Below w.heap.size w wr))
  case atStart => exact ⟨0, _, [], Nat.zero_le _, by omega, rfl, rfl, hid (by rw [List.take_zero]; exact Lof.nil _ _), hid (Below.refl _ _)⟩
  case round =>
    obtain ⟨kk, v, rs, hkk, hg, rfl, rfl, HI, BW⟩ := hrel
    by_cases hlt : kk < n
    · have hltz : (kk : Int) < (n : Int) := by omega
      obtain ⟨b, off, r, p, rfl, hb, hp, hr, hc⟩ := (H.out.below BW.out).get hlt
      have HP := hid hp
      have HZp := hid (HZ.out.2 p (List.mem_of_getElem? hp))
      have HLn := hid (show (l.take kk).length + 1 ≤ 1000 by rw [List.length_take]; have := HZ.out.1; have := HL.out; omega)
      have hsz := BW.out.size
      have HT := hid (fun (X : World) (hX : Below wr.heap.size wr X) => twin1_any (w := X) (hr.below (hX.mono hsz)) (Nat.le_trans hsz hX.size) HZp.out)
      obtain ⟨x, y, z, R⟩ := r
      have HX := hid (show wr.rangeAt b (off + kk * 15) (lcells x y z R).toList from fun t v hv => by rw [Nat.add_assoc]; exact hc t v hv)
      have HAl := hid (fun (o : Obj) => (Below.refl wr.heap.size wr).alloc (Nat.le_refl _) o)
      clear hr hp hc
      go_wp2_with (first
        | (refine wp_lload rfl (.tmp 10) rfl b (off + kk * 15) x y z R rfl HX.out ?_)
        | (go_at_call 49
           refine (HT.out _ (HAl.out _)).mono ?_
           rintro e w3 ⟨⟨x', y', z', R'⟩, rfl, h3⟩
           have B3 := hid (gbelow_on (HAl.out (.cells (lcells x y z R) 40)) (Nat.le_refl _) h3.out.2)
           have T3 := hid (h3.out.1.mono (C := w.heap.size) (Nat.le_trans hsz (HAl.out (.cells (lcells x y z R) 40)).size))
           have b4 := hid ((Below.refl w3.heap.size w3).alloc (Nat.le_refl _) (.cells (lcells x' y' z' R') 40))
           have I4 := hid (HI.out.below (gbelow_on B3.out (Nat.le_refl _) b4.out))
           have T4 := hid (T3.out.below b4.out)
           have B4 := hid (gbelow_on (gbelow_on BW.out (Nat.le_refl _) B3.out) (Nat.le_refl _) b4.out)
           have G4 := hid (Gs.new (cs := cellsL [(x', y', z', R')]) (k := 15) (n := 1) (c := 1) (B := w3.heap.size + 1) (heap_alloc_new w3 (.cells (lcells x' y' z' R') 40)) (Nat.lt_succ_self _) rfl (Nat.le_refl _) (by omega))
           clear h3)
        | (at_builtin
           refine list_appG rfl _ _ rfl Try.underlying22 infoLd rfl (by decide) (by decide) rfl rfl I4.out.row G4.out (cellsL_one _) (Nat.le_trans HLn.out (by decide)) B4.out.size ?_
           intro v5 w5 T5
           have I5 := hid (I4.out.snoc T5.out T4.out)
           have B5 := hid (B4.out.trans (T5.out.below I4.out.row B4.out.size)))
        | fail)
      go_roundg (n - (kk + 1))
      case measure => omega
      case rel => exact ⟨kk + 1, v5, _, by omega, by omega, by go_num, rfl, hid (by rw [take_ld HP.out]; exact I5.out), B5⟩
    · have hltz : ¬ (kk : Int) < (n : Int) := by omega
      obtain rfl : kk = n := by omega
      have HE := hid (show Lof w.heap.size wr v rs l by have := HI.out; rwa [List.take_of_length_le (by rw [HL.out]; exact Nat.le_refl _)] at this)
      go_wp2
      go_ret
      exact ⟨v, rs, rfl, hid ⟨HE.out, BW.out⟩⟩
end Go.Proofs.Ytdcolnipdipkhaa.Fli


namespace Go.Proofs.Ytdcolnipdipkhaa.Fli
section
variable {γ : Type}
/-- In its place, and by its Number, is the same. -/
theorem ins_at {x : Ld γ} : ∀ {l : List (Ld γ)} {k : Nat}, k ≤ l.length → (∀ (j : Nat) (p : Ld γ), j < k → l[j]? = some p → ¬ x.1 < p.1) → (∀ p, l[k]? = some p → x.1 < p.1) → l.take k ++ ([x] ++ l.drop k) = ins x l
  | [], k, hk, _, _ => by
    have : k = 0 := by simpa using hk
    subst this
    rfl
  | y :: l, 0, _, _, h => by
    unfold ins
    rw [if_pos (h y rfl)]
    rfl
  | y :: l, k + 1, hk, ha, h => by
    have ih := ins_at (x := x) (l := l) (k := k) (by simpa using hk) (fun j p hj hp => ha (j + 1) p (by omega) (by simpa using hp)) (fun p hp => h p (by simpa using hp))
    unfold ins
    rw [if_neg (ha 0 y (by omega) rfl), ← ih]
    rfl
theorem set_at {l : List (Ld γ)} {k : Nat} {x : Ld γ} (hk : k < l.length) : l.take k ++ ([x] ++ l.drop (k + 1)) = l.set k x := by
  rw [List.set_eq_take_append_cons_drop, if_pos hk]
  rfl
/-- The load of a Number stands in its place. -/
theorem fnd_at {n : Int} {l : List (Ld γ)} {i : Nat} {x : Ld γ} (hx : l[i]? = some x) (he : x.1 = n) (ha : ∀ (j : Nat) (p : Ld γ), j < i → l[j]? = some p → p.1 ≠ n) : fnd n l = some x := by
  unfold fnd
  induction l generalizing i with
  | nil => simp at hx
  | cons y l ih =>
    cases i with
    | zero =>
      obtain rfl : y = x := by simpa using hx
      rw [List.find?_cons_of_pos (by simpa using he)]
    | succ i =>
      rw [List.find?_cons_of_neg (by simpa using ha 0 y (by omega) rfl)]
      exact ih (i := i) (by simpa using hx) (fun j p hj hp => ha (j + 1) p (by omega) (by simpa using hp))
theorem fnd_no {n : Int} {l : List (Ld γ)} (ha : ∀ (j : Nat) (p : Ld γ), j < l.length → l[j]? = some p → p.1 ≠ n) : fnd n l = none :=
  fnd_none fun i x hx => ha i x (List.getElem?_eq_some_iff.1 hx).1 hx
/-- Loads that may be, up to a place. -/
def upto_ (G : γ → Prop) (l : List (Ld γ)) (k : Nat) : Prop := ∀ j p, j < k → l[j]? = some p → MayL G p ∧ ∀ q, 0 < j → l[j - 1]? = some q → q.1 < p.1
theorem upto_all {G : γ → Prop} {l : List (Ld γ)} : upto_ G l l.length ↔ (∀ p ∈ l, MayL G p) ∧ Rise l := by
  constructor
  · intro h
    refine ⟨fun p hp => ?_, rise_of fun i a b ha hb => ?_⟩
    · obtain ⟨j, hj⟩ := List.mem_iff_getElem?.1 hp
      exact (h j p (List.getElem?_eq_some_iff.1 hj).1 hj).1
    · exact (h (i + 1) b (List.getElem?_eq_some_iff.1 hb).1 hb).2 a (by omega) ha
  · rintro ⟨h1, h2⟩ j p hj hp
    exact ⟨h1 p (List.mem_of_getElem? hp), fun q h0 hq => rise_at h2 hq hp (by omega)⟩
theorem upto_next {G : γ → Prop} {l : List (Ld γ)} {k : Nat} {p : Ld γ} (h : upto_ G l k) (hp : l[k]? = some p) (hm : MayL G p) (hr : ∀ q, 0 < k → l[k - 1]? = some q → q.1 < p.1) : upto_ G l (k + 1) := fun j a hj ha => by
  rcases Nat.lt_or_ge j k with h1 | h1
  · exact h j a h1 ha
  · obtain rfl : j = k := by omega
    rw [hp] at ha
    injection ha with ha
    subst ha
    exact ⟨hm, hr⟩

/-- What Double, Land and Lose answer where the loads and the Number may be: the loads left, the load that comes down, the error (f: 0 doubled, 1 lost, 2 landed). -/
def turnL (l : List (Ld γ)) (n : Int) (f : Nat) : List (Ld γ) := match fnd n l with
  | none => l
  | some x => if f = 0 then (if x.2.2.1 = 16 then [] else cpy n (fun c => c + 1) l) else if f = 1 then (if 1 < x.2.2.1 then cpy n (fun c => c - 1) l else del n l) else del n l
def turnX (l : List (Ld γ)) (n : Int) (f : Nat) : Option (Ld γ) := match fnd n l with
  | none => none
  | some x => if f = 0 then none else if f = 1 then (if 1 < x.2.2.1 then none else some x) else some x
def turnE (l : List (Ld γ)) (n : Int) (f : Nat) : Int := match fnd n l with
  | none => 0
  | some x => if f = 0 then (if x.2.2.1 = 16 then 9 else 0) else 0
end
end Go.Proofs.Ytdcolnipdipkhaa.Fli

