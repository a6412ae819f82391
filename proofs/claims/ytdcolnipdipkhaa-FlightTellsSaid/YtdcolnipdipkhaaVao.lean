/- Flight, the program: turned, all of it; Double, Land, Lose. -/
/- Flight: the document's Double. -/
import Derived.Test.YtdcolnipdipkhaaZpj
import Derived.Test.YtdcolnipdipkhaaVan

namespace Go.Proofs.Ytdcolnipdipkhaa.Fli
set_option maxRecDepth 100000
open Go.RowKit Go.Shelf Go.Lib

/-- What Double (f 0), Lose (1) and Land (2) answer: the error, the loads, the load that comes down. -/
noncomputable def tE (l : List (Ld Pm)) (n : Int) (f : Nat) : Int := if askE l n = 0 then turnE l n f else askE l n
noncomputable def tL (l : List (Ld Pm)) (n : Int) (f : Nat) : List (Ld Pm) := if tE l n f = 0 then turnL l n f else []
noncomputable def tX (l : List (Ld Pm)) (n : Int) (f : Nat) : Ld Pm := if tE l n f = 0 then (turnX l n f).getD p0 else p0
theorem askE_zero {l : List (Ld Pm)} {n : Int} : askE l n = 0 ↔ lchk MayM l ∧ 0 ≤ n ∧ n ≤ 1048575 := by
  unfold askE
  by_cases h : lE l = 0
  · rw [if_pos h]
    by_cases hn : 0 ≤ n ∧ n ≤ 1048575
    · rw [if_pos hn]
      exact ⟨fun _ => ⟨lE_zero.1 h, hn⟩, fun _ => rfl⟩
    · rw [if_neg hn]
      exact ⟨fun q => absurd q (by decide), fun q => absurd q.2 hn⟩
  · rw [if_neg h]
    exact ⟨fun q => absurd q h, fun q => absurd (lE_zero.2 q.1) h⟩
theorem SzL.del {l : List (Ld Pm)} (h : SzL l) (n : Int) : SzL (del n l) := ⟨Nat.le_trans (del_len _ _) h.1, fun p hp => h.2 p (List.mem_filter.1 hp).1⟩
theorem SzL.cpy {l : List (Ld Pm)} (h : SzL l) (n : Int) (f : Int → Int) : SzL (cpy n f l) := ⟨by rw [cpy_len]; exact h.1, fun p hp => by
  unfold Fli.cpy at hp
  obtain ⟨z, hz, rfl⟩ := List.mem_map.1 hp
  split
  · exact h.2 z hz
  · exact h.2 z hz⟩
theorem SzM.zero : SzM p0.2.2.2 := ⟨Nat.zero_le _, Nat.zero_le _, Nat.zero_le _, Nat.zero_le _⟩
theorem Lrd.cnt {w : World} {B : Nat} {r : Lr} {p : Ld Pm} (h : Lrd w B r p) {c : Int} {d : Int} (e : c = d) : Lrd w B (r.1, r.2.1, c, r.2.2.2) (p.1, p.2.1, d, p.2.2.2) := ⟨h.nu, h.ep, e, h.pl, h.rd, h.nil⟩
set_option maxHeartbeats 1600000 in
theorem turned_any {w : World} {B a c : Nat} {A : Option Addr} {l : List (Ld Pm)} (n : Int) (h : Lls w B A a c l) (hB : B ≤ w.heap.size) (hz : SzL l) (f : Nat) (hf : f = 0 ∨ f = 1 ∨ f = 2) :
    Calls Try.prog 34 #[.slice A a c, .int .i64 n, .int .u8 (f : Int)] w (TurnR w (tL l n f) (tX l n f) (tE l n f)) := by
  by_cases h0 : askE l n = 0
  case neg =>
    have e1 : tE l n f = askE l n := by unfold tE; rw [if_neg h0]
    have e2 : tL l n f = [] := by unfold tL; rw [e1, if_neg h0]
    have e3 : tX l n f = p0 := by unfold tX; rw [e1, if_neg h0]
    rw [e1, e2, e3]
    exact turned_ask h hB f h0
  have hE : tE l n f = turnE l n f := by unfold tE; rw [if_pos h0]
  obtain ⟨⟨hc1, hc2, hc3⟩, hn⟩ := askE_zero.1 h0
  cases hq : fnd n l with
  | none =>
    have k1 : turnE l n f = 0 := by unfold turnE; rw [hq]
    have e2 : tL l n f = l := by unfold tL turnL; rw [hE, k1, if_pos rfl, hq]
    have e3 : tX l n f = p0 := by unfold tX turnX; rw [hE, k1, if_pos rfl, hq]; rfl
    rw [hE, k1, e2, e3]
    exact turned_none h hB hz f h0 hq
  | some p =>
    obtain ⟨hpm, hpn⟩ := fnd_mem hq
    have hmp := hc2 p hpm
    have hcnt := hmp.2.2.1
    have hset : ∀ (g : Int → Int) (i : Nat), l[i]? = some p → l.take i ++ ([(p.1, p.2.1, g p.2.2.1, p.2.2.2)] ++ l.drop (i + 1)) = cpy n g l := fun g i hi => by
      rw [set_at (List.getElem?_eq_some_iff.1 hi).1, cpy_at hc3 hi g, hpn]
    have hdel : ∀ i : Nat, l[i]? = some p → l.take i ++ (([] : List (Ld Pm)) ++ l.drop (i + 1)) = del n l := fun i hi => by
      rw [List.nil_append, del_at hc3 hi, hpn]
    rcases hf with rfl | rfl | rfl
    · by_cases h16 : p.2.2.1 = 16
      · have k1 : turnE l n 0 = 9 := by unfold turnE; rw [hq]; show (if 0 = 0 then (if p.2.2.1 = 16 then (9 : Int) else 0) else 0) = 9; rw [if_pos rfl, if_pos h16]
        have e2 : tL l n 0 = [] := by unfold tL; rw [hE, k1]; rfl
        have e3 : tX l n 0 = p0 := by unfold tX; rw [hE, k1]; rfl
        rw [hE, k1, e2, e3]
        exact turned_full h hB h0 hq h16
      · have k1 : turnE l n 0 = 0 := by unfold turnE; rw [hq]; show (if 0 = 0 then (if p.2.2.1 = 16 then (9 : Int) else 0) else 0) = 0; rw [if_pos rfl, if_neg h16]
        have e2 : tL l n 0 = cpy n (fun c => c + 1) l := by unfold tL turnL; rw [hE, k1, if_pos rfl, hq]; show (if 0 = 0 then (if p.2.2.1 = 16 then [] else cpy n (fun c => c + 1) l) else _) = _; rw [if_pos rfl, if_neg h16]
        have e3 : tX l n 0 = p0 := by unfold tX turnX; rw [hE, k1, if_pos rfl, hq]; rfl
        rw [hE, k1, e2, e3]
        exact turned_mid (o := [(p.1, p.2.1, p.2.2.1 + 1, p.2.2.2)]) h hB (fun r : Lr => [(r.1, r.2.1, r.2.2.1 + 1, r.2.2.2)]) (fun _ : Lr => (0, 0, 0, D0)) h0 hq (hz.cpy n _) SzM.zero (hset (fun c => c + 1)) (fun X r hr => become_up (by rw [hr.cp]; exact hcnt.1) (by rw [hr.cp]; omega)) (fun X r hr => ⟨PairL.one (hr.cnt (by rw [hr.cp])), Lrd.zero _ _⟩)
    · have k1 : turnE l n 1 = 0 := by unfold turnE; rw [hq]; rfl
      by_cases h1 : 1 < p.2.2.1
      · have e2 : tL l n 1 = cpy n (fun c => c - 1) l := by unfold tL turnL; rw [hE, k1, if_pos rfl, hq]; show (if 1 = 0 then _ else if 1 = 1 then (if 1 < p.2.2.1 then cpy n (fun c => c - 1) l else del n l) else _) = _; rw [if_neg (by decide), if_pos rfl, if_pos h1]
        have e3 : tX l n 1 = p0 := by unfold tX turnX; rw [hE, k1, if_pos rfl, hq]; show Option.getD (if 1 = 0 then _ else if 1 = 1 then (if 1 < p.2.2.1 then none else some p) else _) p0 = _; rw [if_neg (by decide), if_pos rfl, if_pos h1]; rfl
        rw [hE, k1, e2, e3]
        exact turned_mid (o := [(p.1, p.2.1, p.2.2.1 - 1, p.2.2.2)]) h hB (fun r : Lr => [(r.1, r.2.1, r.2.2.1 - 1, r.2.2.2)]) (fun _ : Lr => (0, 0, 0, D0)) h0 hq (hz.cpy n _) SzM.zero (hset (fun c => c - 1)) (fun X r hr => become_down (by rw [hr.cp]; exact h1) (by rw [hr.cp]; exact hcnt.2)) (fun X r hr => ⟨PairL.one (hr.cnt (by rw [hr.cp])), Lrd.zero _ _⟩)
      · have e2 : tL l n 1 = del n l := by unfold tL turnL; rw [hE, k1, if_pos rfl, hq]; show (if 1 = 0 then _ else if 1 = 1 then (if 1 < p.2.2.1 then cpy n (fun c => c - 1) l else del n l) else _) = _; rw [if_neg (by decide), if_pos rfl, if_neg h1]
        have e3 : tX l n 1 = p := by unfold tX turnX; rw [hE, k1, if_pos rfl, hq]; show Option.getD (if 1 = 0 then _ else if 1 = 1 then (if 1 < p.2.2.1 then none else some p) else _) p0 = _; rw [if_neg (by decide), if_pos rfl, if_neg h1]; rfl
        rw [hE, k1, e2, e3]
        exact turned_mid (o := []) h hB (fun _ : Lr => []) (fun r : Lr => r) h0 hq (hz.del n) (hz.2 p hpm) hdel (fun X r hr => become_last (by rw [hr.cp]; exact h1)) (fun X r hr => ⟨PairL.nil _ _, hr⟩)
    · have k1 : turnE l n 2 = 0 := by unfold turnE; rw [hq]; rfl
      have e2 : tL l n 2 = del n l := by unfold tL turnL; rw [hE, k1, if_pos rfl, hq]; rfl
      have e3 : tX l n 2 = p := by unfold tX turnX; rw [hE, k1, if_pos rfl, hq]; rfl
      rw [hE, k1, e2, e3]
      exact turned_mid (o := []) h hB (fun _ : Lr => []) (fun r : Lr => r) h0 hq (hz.del n) (hz.2 p hpm) hdel (fun X r hr => become_land) (fun X r hr => ⟨PairL.nil _ _, hr⟩)
/-- What a call leaves that answers loads and an error. -/
def LstE (w : World) (L : List (Ld Pm)) (er : Int) (e : Ending) (w' : World) : Prop := ∃ (v : Value) (rs : List Lr), e = .returned (.tuple #[v, .int .i64 er]) ∧ Hid (Lof w.heap.size w' v rs L ∧ Below w.heap.size w w')
set_option maxHeartbeats 1600000 in
theorem double_any {w : World} {B a c : Nat} {A : Option Addr} {l : List (Ld Pm)} (n : Int) (h : Lls w B A a c l) (hB : B ≤ w.heap.size) (hz : SzL l) :
    Calls Try.prog 10 #[.slice A a c, .int .i64 n] w (LstE w (tL l n 0) (tE l n 0)) := by
  have HT := hid (turned_any n h hB hz 0 (by simp))
  clear h
  generalize tL l n 0 = L at HT ⊢
  generalize tX l n 0 = X at HT
  generalize tE l n 0 = er at HT ⊢
  go_enter Try.func10, Try.ntmps10
  go_wp2_with fail
  refine HT.out.mono ?_
  rintro e w1 ⟨v, rs, ⟨x, y, z, M⟩, mid, rfl, H1⟩
  have Y1 := hid (Lbx.new w1 0 0 0 D0)
  have B1 := hid ((Below.refl _ w1).alloc (Nat.le_refl w1.heap.size) (.cells (lcells 0 0 0 D0) 40))
  go_wp2_with (first
    | (refine gput_row (P := Try.prog) rfl _ (.tmp 7) (.tmp 14) rfl w1.heap.size 40 _ (lcells x y z M) rfl rfl Y1.out rfl (loadSize x y z M) (lcells_one x y z M) ?_
       intro w4 x4 q4
       have B4 := hid (q4.bel B1.out (Nat.le_refl _)))
    | fail)
  go_ret2
  exact ⟨v, rs, rfl, hid ⟨H1.out.1.below B4.out, gbelow_on H1.out.2.1 (Nat.le_refl _) B4.out⟩⟩
set_option maxHeartbeats 1600000 in
theorem land_any {w : World} {B a c : Nat} {A : Option Addr} {l : List (Ld Pm)} (n : Int) (h : Lls w B A a c l) (hB : B ≤ w.heap.size) (hz : SzL l) :
    Calls Try.prog 12 #[.slice A a c, .int .i64 n] w (TurnR w (tL l n 2) (tX l n 2) (tE l n 2)) := by
  obtain ⟨W, hW⟩ : ∃ W, W = w.alloc (.cells (lcells 0 0 0 D0) 40) := ⟨_, rfl⟩
  have B0 := hid (show Below w.heap.size w W from hW ▸ (Below.refl _ w).alloc (Nat.le_refl _) _)
  have Y0 := hid (show Lbx W w.heap.size 0 0 0 D0 from hW ▸ Lbx.new w 0 0 0 D0)
  have HT := hid (turned_any n ((h.mono hB).below B0.out) B0.out.size hz 2 (by simp))
  have HW := hid hW
  clear hW h
  generalize tL l n 2 = L at HT ⊢
  generalize tX l n 2 = X at HT ⊢
  generalize tE l n 2 = er at HT ⊢
  go_enter Try.func12, Try.ntmps12
  go_upto_region 1 with fail
  have hW2 : (w.alloc (.cells #[.int .i64 0, .int .i64 0, .int .i64 0, .bool false, .slice none 0 0, .int .i64 0, .bool false, .slice none 0 0, .int .i64 0, .bool false, .slice none 0 0, .int .i64 0, .bool false, .slice none 0 0, .int .i64 0] 40)) = W := HW.out.symm
  rw [hW2]
  clear hW2
  go_wp2_with fail
  refine HT.out.mono ?_
  rintro e w1 ⟨v, rs, ⟨x, y, z, M⟩, mid, rfl, H1⟩
  have Y1 := hid (Y0.out.below H1.out.2.1 Y0.out.lt)
  have B1 := hid (gbelow_on B0.out (Nat.le_refl _) H1.out.2.1)
  go_wp2_with (first
    | (refine gput_row (P := Try.prog) rfl _ (.tmp 5) (.tmp 11) rfl w.heap.size 40 _ (lcells x y z M) rfl rfl Y1.out rfl (loadSize x y z M) (lcells_one x y z M) ?_
       intro w4 x4 q4
       have H4 := hid (And.intro (H1.out.1.gq q4 Y0.out.lt) (And.intro (q4.bel B1.out (Nat.le_refl _)) (H1.out.2.2.1.gq q4 (Nat.lt_of_lt_of_le Y0.out.lt H1.out.2.2.2.2)))))
    | fail)
  refine ret_load3 (g := w.heap.size) (x := x) (y := y) (z := z) (M := M) rfl rfl rfl rfl rfl x4 ?_
  exact ⟨v, rs, (x, y, z, M), mid, rfl, hid ⟨H4.out.1.mono B0.out.size, H4.out.2.1, H4.out.2.2, H1.out.2.2.2.1, Nat.le_trans B0.out.size H1.out.2.2.2.2⟩⟩
set_option maxHeartbeats 1600000 in
theorem lose_any {w : World} {B a c : Nat} {A : Option Addr} {l : List (Ld Pm)} (n : Int) (h : Lls w B A a c l) (hB : B ≤ w.heap.size) (hz : SzL l) :
    Calls Try.prog 14 #[.slice A a c, .int .i64 n] w (TurnR w (tL l n 1) (tX l n 1) (tE l n 1)) := by
  obtain ⟨W, hW⟩ : ∃ W, W = w.alloc (.cells (lcells 0 0 0 D0) 40) := ⟨_, rfl⟩
  have B0 := hid (show Below w.heap.size w W from hW ▸ (Below.refl _ w).alloc (Nat.le_refl _) _)
  have Y0 := hid (show Lbx W w.heap.size 0 0 0 D0 from hW ▸ Lbx.new w 0 0 0 D0)
  have HT := hid (turned_any n ((h.mono hB).below B0.out) B0.out.size hz 1 (by simp))
  have HW := hid hW
  clear hW h
  generalize tL l n 1 = L at HT ⊢
  generalize tX l n 1 = X at HT ⊢
  generalize tE l n 1 = er at HT ⊢
  go_enter Try.func14, Try.ntmps14
  go_upto_region 1 with fail
  have hW2 : (w.alloc (.cells #[.int .i64 0, .int .i64 0, .int .i64 0, .bool false, .slice none 0 0, .int .i64 0, .bool false, .slice none 0 0, .int .i64 0, .bool false, .slice none 0 0, .int .i64 0, .bool false, .slice none 0 0, .int .i64 0] 40)) = W := HW.out.symm
  rw [hW2]
  clear hW2
  go_wp2_with fail
  refine HT.out.mono ?_
  rintro e w1 ⟨v, rs, ⟨x, y, z, M⟩, mid, rfl, H1⟩
  have Y1 := hid (Y0.out.below H1.out.2.1 Y0.out.lt)
  have B1 := hid (gbelow_on B0.out (Nat.le_refl _) H1.out.2.1)
  go_wp2_with (first
    | (refine gput_row (P := Try.prog) rfl _ (.tmp 5) (.tmp 11) rfl w.heap.size 40 _ (lcells x y z M) rfl rfl Y1.out rfl (loadSize x y z M) (lcells_one x y z M) ?_
       intro w4 x4 q4
       have H4 := hid (And.intro (H1.out.1.gq q4 Y0.out.lt) (And.intro (q4.bel B1.out (Nat.le_refl _)) (H1.out.2.2.1.gq q4 (Nat.lt_of_lt_of_le Y0.out.lt H1.out.2.2.2.2)))))
    | fail)
  refine ret_load3 (g := w.heap.size) (x := x) (y := y) (z := z) (M := M) rfl rfl rfl rfl rfl x4 ?_
  exact ⟨v, rs, (x, y, z, M), mid, rfl, hid ⟨H4.out.1.mono B0.out.size, H4.out.2.1, H4.out.2.2, H1.out.2.2.2.1, Nat.le_trans B0.out.size H1.out.2.2.2.2⟩⟩
end Go.Proofs.Ytdcolnipdipkhaa.Fli


namespace Go.Proofs.Ytdcolnipdipkhaa.Fli
set_option maxRecDepth 100000
open Go.RowKit Go.Shelf Go.Lib

theorem Lof.blk {B : Nat} {w : World} {v : Value} {rs : List Lr} {l : List (Ld Pm)} (h : Lof B w v rs l) (h0 : 0 < l.length) : ∃ g c cur, v = .slice (some ⟨g, 0, none⟩) l.length c ∧ w.heap[g]? = some (.cells cur 40 (0, 0)) ∧ l.length ≤ c ∧ B ≤ g ∧ cur.size = c * 15 ∧ l.length ≤ 100000 := by
  obtain ⟨⟨hl, hor⟩, hm⟩ := h.row
  rcases hor with ⟨e, h1⟩ | ⟨g, cap, cur, e, hB, hg, hn, hc, hs, ht⟩
  · omega
  · exact ⟨g, cap, cur, e, hg, hn, hB, hs, hm⟩
theorem Lof.lls2 {B n c : Nat} {w : World} {A : Option Addr} {rs : List Lr} {l : List (Ld Pm)} (h : Lof B w (.slice A n c) rs l) : Lls w w.heap.size A n c l := by
  obtain ⟨A', c', e, hl⟩ := h.form
  injection e with e1 e2 e3
  subst e1 e2 e3
  exact hl
/-- Where a Number stands in loads that rise. -/
theorem plc_fnd {l : List (Ld Pm)} {x i : Int} (h : Plc l x i) (hr : Rise l) : (i = -1 ∧ fnd x l = none) ∨ ∃ (j : Nat) (p : Ld Pm), i = (j : Int) ∧ l[j]? = some p ∧ p.1 = x ∧ fnd x l = some p := by
  rcases h with ⟨h1, h2⟩ | ⟨j, p, h1, h2, h3⟩
  · exact .inl ⟨h1, fnd_none h2⟩
  · exact .inr ⟨j, p, h1, h2, h3, h3 ▸ fnd_some hr h2⟩
set_option maxHeartbeats 3200000 in
theorem rdouble_any {w : World} {B n c : Nat} {A : Option Addr} {l : List (Ld Pm)} (x : Int) (h : Lls w B A n c l) (hB : B ≤ w.heap.size) (hz : SzL l) :
    Calls Try.prog 11 #[.slice A n c, .int .i64 x] w (LstE w (tL l x 0) (tE l x 0)) := by
  have HA := hid (asked_any x h hB)
  have H := hid h
  have hm := h.max
  have hcap := h.cap
  have HL := hid h.len
  have HZ := hid hz
  clear h hz
  by_cases h0 : askE l x = 0
  case neg =>
    have e1 : tE l x 0 = askE l x := by unfold tE; rw [if_neg h0]
    have e2 : tL l x 0 = [] := by unfold tL; rw [e1, if_neg h0]
    rw [e1, e2]
    generalize askE l x = q at *
    have hne : ¬ q = 0 := h0
    clear e1 e2 h0
    go_enter Try.func11, Try.ntmps11
    go_wp2_with fail
    refine HA.out.mono ?_
    rintro e w1 ⟨rfl, H1⟩
    go_wp2
    go_ret2
    exact ⟨_, [], rfl, hid ⟨Lof.nil _ _, H1.out⟩⟩
  have HE := hid (show tE l x 0 = turnE l x 0 by unfold tE; rw [if_pos h0])
  have HC := hid (askE_zero.1 h0).1
  rw [h0] at HA
  clear h0
  go_enter Try.func11, Try.ntmps11
  go_wp2_with fail
  refine HA.out.mono ?_
  rintro e w1 ⟨rfl, H1⟩
  have CT := hid (rtwins_any (H.out.below (H1.out.mono hB)) (Nat.le_trans hB H1.out.size) HZ.out)
  go_wp2_with fail
  refine CT.out.mono ?_
  rintro e w2 ⟨v, rs, rfl, H2⟩
  have B2 := hid (gbelow_on H1.out (Nat.le_refl _) H2.out.2)
  have L2 := hid (H2.out.1.mono H1.out.size)
  have CP := hid (place_any (x := x) (H.out.below (B2.out.mono hB)) (Nat.le_trans hB B2.out.size))
  clear H2 CT
  go_wp2_with fail
  refine CP.out.mono ?_
  rintro e w3 ⟨i, rfl, hpl, H3⟩
  have B3 := hid (gbelow_on B2.out (Nat.le_refl _) H3.out)
  have L3 := hid (L2.out.below H3.out)
  rcases plc_fnd hpl.out HC.out.2.2 with ⟨rfl, hf⟩ | ⟨j, p, rfl, hj, hpx, hf⟩
  · have k1 : turnE l x 0 = 0 := by unfold turnE; rw [hf]
    have e2 : tL l x 0 = l := by unfold tL turnL; rw [HE.out, k1, if_pos rfl, hf]
    have HF := hid (And.intro (HE.out.trans k1) e2)
    clear k1 e2 hf hpl CP
    go_wp2
    go_ret2
    rw [HF.out.1, HF.out.2]
    exact ⟨v, rs, rfl, hid ⟨L3.out, B3.out⟩⟩
  have hjn : j < n := by rw [← HL.out]; exact (List.getElem?_eq_some_iff.1 hj).1
  have hjl : j < l.length := (List.getElem?_eq_some_iff.1 hj).1
  have hjz : (j : Int) < (n : Int) := by omega
  have hjp : ¬ (j : Int) < 0 := by omega
  obtain ⟨b, off, r, p', rfl, hb, hp', hr, hc⟩ := (H.out.below (B3.out.mono hB)).get hjn
  obtain rfl : p' = p := by rw [hj] at hp'; injection hp' with hp'; exact hp'.symm
  have hcnt := hc 2 _ rfl
  rw [hr.cp, ← Nat.add_assoc] at hcnt
  obtain ⟨z, hzz⟩ : ∃ z, z = p'.2.2.1 := ⟨_, rfl⟩
  rw [← hzz] at hcnt
  have hmp := (HC.out.2.1 p' (List.mem_of_getElem? hj)).2.2.1
  rw [← hzz] at hmp
  have HP := hid (And.intro hj (And.intro hpx (And.intro hf hzz)))
  clear hc hr hpl CP hf hj hpx
  by_cases h16 : z ≥ 16
  · have k1 : turnE l x 0 = 9 := by
      unfold turnE; rw [HP.out.2.2.1]
      show (if 0 = 0 then (if p'.2.2.1 = 16 then (9 : Int) else 0) else 0) = 9
      rw [if_pos rfl, if_pos (by rw [← HP.out.2.2.2]; omega)]
    have e2 : tL l x 0 = [] := by unfold tL; rw [HE.out, k1]; rfl
    have HF := hid (And.intro (HE.out.trans k1) e2)
    clear k1 e2 hzz
    go_wp2
    go_ret2
    rw [HF.out.1, HF.out.2]
    exact ⟨_, [], rfl, hid ⟨Lof.nil _ _, B3.out⟩⟩
  have k1 : turnE l x 0 = 0 := by
    unfold turnE; rw [HP.out.2.2.1]
    show (if 0 = 0 then (if p'.2.2.1 = 16 then (9 : Int) else 0) else 0) = 0
    rw [if_pos rfl, if_neg (by rw [← HP.out.2.2.2]; omega)]
  have e2 : tL l x 0 = l.set j (p'.1, p'.2.1, z + 1, p'.2.2.2) := by
    unfold tL turnL
    rw [HE.out, k1, if_pos rfl, HP.out.2.2.1]
    show (if 0 = 0 then (if p'.2.2.1 = 16 then [] else cpy x (fun c => c + 1) l) else _) = _
    rw [if_pos rfl, if_neg (by rw [← HP.out.2.2.2]; omega), ← HP.out.2.1, ← cpy_at HC.out.2.2 HP.out.1 (fun c => c + 1), HP.out.2.2.2]
  have HF := hid (And.intro (HE.out.trans k1) e2)
  clear k1 e2 hzz
  obtain ⟨g, c2, cur, rfl, hcur, hcc, hBg, hsz, hml⟩ := L3.out.blk (by omega)
  obtain ⟨b2, off2, r2, p2, eA, hb2, hp2, hr2, hc2⟩ := L3.out.lls2.get hjl
  obtain ⟨rfl, rfl⟩ : g = b2 ∧ 0 = off2 := by injection eA with eA; injection eA with e1 e2; exact ⟨e1, e2⟩
  have hrs : ∃ rr, rs[j]? = some rr := ⟨_, List.getElem?_eq_getElem (by rw [L3.out.pair.1]; exact hjl)⟩
  obtain ⟨rr, hrr⟩ := hrs
  have hcnt2 := hc2 2 _ rfl
  rw [hr2.cp, Nat.zero_add] at hcnt2
  obtain rfl : p2 = p' := by rw [HP.out.1] at hp2; injection hp2 with hp2; exact hp2.symm
  rw [← HP.out.2.2.2] at hcnt2
  have HR := hid (And.intro hrr hcur)
  have HSZ := hid (show j * 15 + 2 < cur.size by rw [hsz]; omega)
  have hjl2 : (j : Int) < (l.length : Int) := by omega
  have HBg := hid hBg
  clear hc2 hr2 hp2 hrr hcur eA hsz hBg
  go_wp2_with (first
    | (refine gput_cell (P := Try.prog) (by rfl) _ (.tmp 36) (.tmp 34) (by with_reducible rfl) g (j * 15 + 2) (.int .i64 (z + 1)) 40 cur _ (by rfl) (by rfl) rfl (by kernel_rfl) HR.out.2 HSZ.out rfl ?_
       intro w4 x4 q4
       have L4 := hid (L3.out.cnt (z + 1) HR.out.1 HP.out.1 HR.out.2 q4 x4)
       have B4 := hid (q4.bel B3.out (by have := HBg.out; exact this)))
    | fail)
  go_ret2
  rw [HF.out.1, HF.out.2]
  exact ⟨.slice (some ⟨g, 0, none⟩) l.length c2, rs.set j (rr.1, rr.2.1, z + 1, rr.2.2.2), rfl, hid ⟨L4.out, B4.out⟩⟩
end Go.Proofs.Ytdcolnipdipkhaa.Fli

