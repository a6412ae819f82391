/- Flight, the program: turned. -/
import Derived.Test.YtdcolnipdipkhaaVan
import Derived.Test.YtdcolnipdipkhaaZph
namespace Go.Proofs.Ytdcolnipdipkhaa.Fli
set_option maxRecDepth 100000
open Go.RowKit Go.Shelf Go.Lib

/-- The zero load. -/
def p0 : Ld Pm := (0, 0, 0, pmd D0)
theorem Low.zero (B : Nat) (w : World) : Low B w (0, 0, 0, D0) p0 := ⟨rfl, rfl, rfl, rfl, fun _ _ => Mk.nil w _ B⟩
/-- What loads own lies ahead of a block. -/
def AheadL (mid : Nat) (v : Value) (rs : List Lr) : Prop := (∀ q, v.ownBlock = some q → q < mid) ∧ ∀ r ∈ rs, ∀ k, k < 4 → ∀ g o, (r.2.2.2 k).A = some ⟨g, o, none⟩ → g < mid
theorem AheadL.mono {mid m : Nat} {v : Value} {rs : List Lr} (h : AheadL mid v rs) (k : mid ≤ m) : AheadL m v rs := ⟨fun q hq => Nat.lt_of_lt_of_le (h.1 q hq) k, fun r hr j hj g o e => Nat.lt_of_lt_of_le (h.2 r hr j hj g o e) k⟩
theorem AheadL.nil (mid : Nat) : AheadL mid (.slice none 0 0) [] := ⟨fun q h => (by cases h), by simp⟩
theorem Lof.ahead {B : Nat} {w : World} {v : Value} {rs : List Lr} {l : List (Ld Pm)} (h : Lof B w v rs l) : AheadL w.heap.size v rs := by
  refine ⟨fun q hq => (h.row.lt q hq).2, fun r hr k hk g o e => ?_⟩
  obtain ⟨j, hj⟩ := List.mem_iff_getElem?.1 hr
  have hl := (List.getElem?_eq_some_iff.1 hj).1
  have hp := h.pair.2 j r (l[j]'(by rw [← h.pair.1]; exact hl)) hj (List.getElem?_eq_getElem _)
  rcases (hp.lim k hk).own with ⟨h0, _⟩ | ⟨b, cs, hA, _, hc, _⟩
  · rw [h0] at e; cases e
  · rw [hA] at e
    injection e with e
    injection e with e1 e2
    subst e1
    exact lt_of_heap hc
theorem gq_grown {g : Nat} {w w' : World} (h : Gq g w w') : w.grownBy w' (some g) := ⟨h.os, h.tape, h.output, Nat.le_of_eq h.size, fun b _ hne => h.block b (fun e => hne (by rw [e]))⟩
theorem Low.gq {B g : Nat} {w w' : World} {r : Lr} {p : Ld Pm} (h : Low B w r p) (q : Gq g w w') (hg : g < B) : Low B w' r p := h.keep fun b cs hb _ => q.block b (by omega)
theorem Lof.gq {B g : Nat} {w w' : World} {v : Value} {rs : List Lr} {l : List (Ld Pm)} (h : Lof B w v rs l) (q : Gq g w w') (hg : g < B) : Lof B w' v rs l :=
  ⟨h.row.kept (gq_grown q) (by
    cases hv : v.ownBlock with
    | none => exact .inl rfl
    | some b => exact .inr (fun e => by injection e with e; have := (h.row.lt b hv).1; omega)), h.pair.keep fun b cs hb _ => q.block b (by omega)⟩
theorem Gs.gq {g B k n c : Nat} {w w' : World} {A : Option Addr} {cs : List Value} (h : Gs w B A n c k cs) (q : Gq g w w') (hA : ∀ a, A = some a → a.block ≠ g) : Gs w' B A n c k cs :=
  ⟨h.len, h.cap, h.max, h.nil, fun hn => by
    obtain ⟨b, off, rfl, hb, hc⟩ := h.at_ hn
    refine ⟨b, off, rfl, hb, fun j v hj => ?_⟩
    rw [World.cell?_of_block (a := ⟨b, off + j, none⟩) (q.block b (hA _ rfl))]
    exact hc j v hj⟩
theorem PairL.gq {g B : Nat} {w w' : World} {rs : List Lr} {l : List (Ld Pm)} (h : PairL w B rs l) (hB : B ≤ g) (q : Gq g w w') : PairL w' B rs l :=
  h.below ⟨q.os, q.tape, q.output, Nat.le_of_eq q.size, fun b hb => q.block b (by omega)⟩
/-- What turned leaves: loads, the load that comes down, the error. -/
def TurnR (w : World) (L : List (Ld Pm)) (X : Ld Pm) (er : Int) (e : Ending) (w' : World) : Prop := ∃ (v : Value) (rs : List Lr) (r : Lr) (mid : Nat), e = .returned (.tuple #[v, .agg (lcells r.1 r.2.1 r.2.2.1 r.2.2.2), .int .i64 er]) ∧ Hid (Lof w.heap.size w' v rs L ∧ Below w.heap.size w w' ∧ Low mid w' r X ∧ AheadL mid v rs ∧ w.heap.size ≤ mid)
theorem TurnR.none' {w w' : World} {er : Int} (h : Below w.heap.size w w') : TurnR w [] p0 er (.returned (.tuple #[.slice none 0 0, .agg (lcells 0 0 0 D0), .int .i64 er])) w' := ⟨_, [], (0, 0, 0, D0), w.heap.size, rfl, hid ⟨Lof.nil _ _, h, Low.zero _ _, AheadL.nil _, Nat.le_refl _⟩⟩
set_option maxHeartbeats 3200000 in
theorem turned_ask {w : World} {B a c : Nat} {A : Option Addr} {l : List (Ld Pm)} {n : Int} (h : Lls w B A a c l) (hB : B ≤ w.heap.size) (f : Nat) (h0 : askE l n ≠ 0) :
    Calls Try.prog 34 #[.slice A a c, .int .i64 n, .int .u8 (f : Int)] w (TurnR w [] p0 (askE l n)) := by
  obtain ⟨W, hW⟩ : ∃ W, W = w.alloc (.cells (lcells 0 0 0 D0) 40) := ⟨_, rfl⟩
  have B0 := hid (show Below w.heap.size w W from hW ▸ (Below.refl _ w).alloc (Nat.le_refl _) _)
  have Y0 := hid (show Lbx W w.heap.size 0 0 0 D0 from hW ▸ Lbx.new w 0 0 0 D0)
  have HN := hid (numbers_any ((h.mono hB).below B0.out) B0.out.size)
  have HQ := hid (fun (X : World) (hX : Below W.heap.size W X) (g3 g1 : Nat) h3 h1 => numbers1_any (w := X) (g3 := g3) (g1 := g1) (((h.mono hB).below B0.out).below (hX.mono B0.out.size)) (Nat.le_trans B0.out.size hX.size) h3 h1 n)
  have hm := h.max
  have hcap := h.cap
  have HL := hid h.len
  have HW := hid hW
  unfold NumR at HQ
  generalize askE l n = q at *
  have hne : ¬ q = 0 := h0
  clear hW h h0
  go_enter Try.func34, Try.ntmps34
  go_upto_region 1 with fail
  have hW2 : (w.alloc (.cells #[.int .i64 0, .int .i64 0, .int .i64 0, .bool false, .slice none 0 0, .int .i64 0, .bool false, .slice none 0 0, .int .i64 0, .bool false, .slice none 0 0, .int .i64 0, .bool false, .slice none 0 0, .int .i64 0] 40)) = W := HW.out.symm
  rw [hW2]
  clear hW2
  go_wp2_with fail
  refine HN.out.mono ?_
  rintro e w1 ⟨g3, g1, rfl, H1⟩
  have HC := hid (HQ.out w1 H1.out.2.2 g3 g1 H1.out.1 H1.out.2.1)
  go_wp2_with fail
  refine HC.out.mono ?_
  rintro e w2 ⟨i, t, rfl, H2⟩
  have B2 := hid (gbelow_on (gbelow_on B0.out (Nat.le_refl _) H1.out.2.2) (Nat.le_refl _) H2.out.2)
  have Y2 := hid ((Y0.out.below H1.out.2.2 Y0.out.lt).below H2.out.2 (Nat.lt_of_lt_of_le Y0.out.lt H1.out.2.2.size))
  go_wp2_with (first
    | (refine gput_row (P := Try.prog) rfl _ (.tmp 7) (.tmp 22) rfl w.heap.size 40 _ (lcells 0 0 0 D0) rfl rfl Y2.out rfl (loadSize 0 0 0 D0) (lcells_one 0 0 0 D0) ?_
       intro w4 x4 q4
       have B4 := hid (q4.bel B2.out (Nat.le_refl _)))
    | fail)
  refine ret_load3 (g := w.heap.size) (x := 0) (y := 0) (z := 0) (M := D0) rfl rfl rfl rfl rfl x4 ?_
  exact TurnR.none' B4.out
set_option maxHeartbeats 3200000 in
theorem turned_none {w : World} {B a c : Nat} {A : Option Addr} {l : List (Ld Pm)} {n : Int} (h : Lls w B A a c l) (hB : B ≤ w.heap.size) (hz : SzL l) (f : Nat) (h0 : askE l n = 0) (hf : fnd n l = none) :
    Calls Try.prog 34 #[.slice A a c, .int .i64 n, .int .u8 (f : Int)] w (TurnR w l p0 0) := by
  obtain ⟨W, hW⟩ : ∃ W, W = w.alloc (.cells (lcells 0 0 0 D0) 40) := ⟨_, rfl⟩
  have B0 := hid (show Below w.heap.size w W from hW ▸ (Below.refl _ w).alloc (Nat.le_refl _) _)
  have Y0 := hid (show Lbx W w.heap.size 0 0 0 D0 from hW ▸ Lbx.new w 0 0 0 D0)
  have HN := hid (numbers_any ((h.mono hB).below B0.out) B0.out.size)
  have HQ := hid (fun (X : World) (hX : Below W.heap.size W X) (g3 g1 : Nat) h3 h1 => numbers1_any (w := X) (g3 := g3) (g1 := g1) (((h.mono hB).below B0.out).below (hX.mono B0.out.size)) (Nat.le_trans B0.out.size hX.size) h3 h1 n)
  have hm := h.max
  have hcap := h.cap
  have HL := hid h.len
  have HW := hid hW
  unfold NumR at HQ
  rw [h0] at HQ
  have HF := hid hf
  have HK := hid (h.mono hB)
  have HZ := hid hz
  clear hW h h0 hf hz
  go_enter Try.func34, Try.ntmps34
  go_upto_region 1 with fail
  have hW2 : (w.alloc (.cells #[.int .i64 0, .int .i64 0, .int .i64 0, .bool false, .slice none 0 0, .int .i64 0, .bool false, .slice none 0 0, .int .i64 0, .bool false, .slice none 0 0, .int .i64 0, .bool false, .slice none 0 0, .int .i64 0] 40)) = W := HW.out.symm
  rw [hW2]
  clear hW2
  go_wp2_with fail
  refine HN.out.mono ?_
  rintro e w1 ⟨g3, g1, rfl, H1⟩
  have HC := hid (HQ.out w1 H1.out.2.2 g3 g1 H1.out.1 H1.out.2.1)
  go_wp2_with fail
  refine HC.out.mono ?_
  rintro e w2 ⟨i, t, rfl, H2⟩
  have B2 := hid (gbelow_on (gbelow_on B0.out (Nat.le_refl _) H1.out.2.2) (Nat.le_refl _) H2.out.2)
  have Y2 := hid ((Y0.out.below H1.out.2.2 Y0.out.lt).below H2.out.2 (Nat.lt_of_lt_of_le Y0.out.lt H1.out.2.2.size))
  have ht : t = false := by
    rcases H2.out.1 (by trivial) with ⟨_, _, p, _, hp⟩ | ⟨h, _⟩
    · rw [HF.out] at hp; cases hp
    · exact h
  subst ht
  have HT := hid (ptwin_any (HK.out.below B2.out) B2.out.size HZ.out)
  go_wp2_with fail
  refine HT.out.mono ?_
  rintro e w3 ⟨v, rs, rfl, H3⟩
  have B3 := hid (gbelow_on B2.out (Nat.le_refl _) H3.out.2)
  have Y3 := hid (Y2.out.below H3.out.2 Y2.out.lt)
  have L3 := hid H3.out.1
  have S2 := hid Y2.out.lt
  clear H3
  go_wp2_with (first
    | (refine gput_row (P := Try.prog) rfl _ (.tmp 7) (.tmp 28) rfl w.heap.size 40 _ (lcells 0 0 0 D0) rfl rfl Y3.out rfl (loadSize 0 0 0 D0) (lcells_one 0 0 0 D0) ?_
       intro w4 x4 q4
       have B4 := hid (q4.bel B3.out (Nat.le_refl _))
       have L4 := hid ((L3.out.gq q4 S2.out).mono (C := w.heap.size) B2.out.size))
    | fail)
  refine ret_load3 (g := w.heap.size) (x := 0) (y := 0) (z := 0) (M := D0) rfl rfl rfl rfl rfl x4 ?_
  exact ⟨v, rs, (0, 0, 0, D0), w4.heap.size, rfl, hid ⟨L4.out, B4.out, Low.zero _ _, L4.out.ahead, B4.out.size⟩⟩
set_option maxHeartbeats 3200000 in
theorem turned_full {w : World} {B a c : Nat} {A : Option Addr} {l : List (Ld Pm)} {n : Int} (h : Lls w B A a c l) (hB : B ≤ w.heap.size) {p : Ld Pm} (h0 : askE l n = 0) (hf : fnd n l = some p) (h16 : p.2.2.1 = 16) :
    Calls Try.prog 34 #[.slice A a c, .int .i64 n, .int .u8 0] w (TurnR w [] p0 9) := by
  obtain ⟨W, hW⟩ : ∃ W, W = w.alloc (.cells (lcells 0 0 0 D0) 40) := ⟨_, rfl⟩
  have B0 := hid (show Below w.heap.size w W from hW ▸ (Below.refl _ w).alloc (Nat.le_refl _) _)
  have Y0 := hid (show Lbx W w.heap.size 0 0 0 D0 from hW ▸ Lbx.new w 0 0 0 D0)
  have HN := hid (numbers_any ((h.mono hB).below B0.out) B0.out.size)
  have HQ := hid (fun (X : World) (hX : Below W.heap.size W X) (g3 g1 : Nat) h3 h1 => numbers1_any (w := X) (g3 := g3) (g1 := g1) (((h.mono hB).below B0.out).below (hX.mono B0.out.size)) (Nat.le_trans B0.out.size hX.size) h3 h1 n)
  have hm := h.max
  have hcap := h.cap
  have HL := hid h.len
  have HW := hid hW
  unfold NumR at HQ
  rw [h0] at HQ
  have HF := hid hf
  have HK := hid h
  clear hW h h0 hf
  go_enter Try.func34, Try.ntmps34
  go_upto_region 1 with fail
  have hW2 : (w.alloc (.cells #[.int .i64 0, .int .i64 0, .int .i64 0, .bool false, .slice none 0 0, .int .i64 0, .bool false, .slice none 0 0, .int .i64 0, .bool false, .slice none 0 0, .int .i64 0, .bool false, .slice none 0 0, .int .i64 0] 40)) = W := HW.out.symm
  rw [hW2]
  clear hW2
  go_wp2_with fail
  refine HN.out.mono ?_
  rintro e w1 ⟨g3, g1, rfl, H1⟩
  have HC := hid (HQ.out w1 H1.out.2.2 g3 g1 H1.out.1 H1.out.2.1)
  go_wp2_with fail
  refine HC.out.mono ?_
  rintro e w2 ⟨i, t, rfl, H2⟩
  have B2 := hid (gbelow_on (gbelow_on B0.out (Nat.le_refl _) H1.out.2.2) (Nat.le_refl _) H2.out.2)
  have Y2 := hid ((Y0.out.below H1.out.2.2 Y0.out.lt).below H2.out.2 (Nat.lt_of_lt_of_le Y0.out.lt H1.out.2.2.size))
  obtain ⟨rfl, hi, HI⟩ : t = true ∧ i < a ∧ Hid (l[i]? = some p ∧ fnd n l = some p) := by
    rcases H2.out.1 (by trivial) with ⟨h1, h2, q, hq1, hq2⟩ | ⟨_, h2⟩
    · rw [HF.out] at hq2
      injection hq2 with hq2
      subst hq2
      exact ⟨h1, by rw [← HL.out]; exact h2, hid ⟨hq1, HF.out⟩⟩
    · rw [HF.out] at h2; cases h2
  have hilt : (i : Int) < (a : Int) := by omega
  obtain ⟨b, off, r, q, rfl, hb, hp, hr, hc⟩ := (HK.out.below (B2.out.mono hB)).get hi
  obtain rfl : q = p := by
    have := HI.out.1
    rw [hp] at this
    injection this
  obtain ⟨x, y, z, M⟩ := r
  have hx := hid (show w2.rangeAt b (off + i * 15) (lcells x y z M).toList from fun t v hv => by rw [Nat.add_assoc]; exact hc t v hv)
  have hz : z = 16 := hr.cp.trans h16
  subst hz
  have HR := hid (become_full (w := w2) (x := x) (y := y) (M := M))
  clear hr hc hp h16
  go_wp2_with (first | (refine wp_lload rfl (.tmp 32) rfl b (off + i * 15) x y 16 M rfl hx.out ?_) | fail)
  refine HR.out.mono ?_
  rintro e w3 ⟨A3, n3, c3, rfl, H3⟩
  have B3 := hid (gbelow_on B2.out (Nat.le_refl _) H3.out.2.1)
  have Y3 := hid (Y2.out.below H3.out.2.1 Y2.out.lt)
  clear H3
  go_wp2_with (first
    | (refine gput_row (P := Try.prog) rfl _ (.tmp 7) (.tmp 37) rfl w.heap.size 40 _ (lcells 0 0 0 D0) rfl rfl Y3.out rfl (loadSize 0 0 0 D0) (lcells_one 0 0 0 D0) ?_
       intro w4 x4 q4
       have B4 := hid (q4.bel B3.out (Nat.le_refl _)))
    | (refine gput_row (P := Try.prog) rfl _ (.tmp 7) (.tmp 41) rfl w.heap.size 40 _ (lcells 0 0 0 D0) rfl rfl x4 rfl (loadSize 0 0 0 D0) (lcells_one 0 0 0 D0) ?_
       intro w5 x5 q5
       have B5 := hid (q5.bel B4.out (Nat.le_refl _)))
    | fail)
  refine ret_load3 (g := w.heap.size) (x := 0) (y := 0) (z := 0) (M := D0) rfl rfl rfl rfl rfl x5 ?_
  exact TurnR.none' B5.out
end Go.Proofs.Ytdcolnipdipkhaa.Fli
