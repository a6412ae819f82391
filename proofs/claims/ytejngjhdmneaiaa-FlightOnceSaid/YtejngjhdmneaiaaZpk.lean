/- Flight, the program: turned, all of it; Double, Land, Lose. -/
import Derived.Test.YtejngjhdmneaiaaZpj
namespace Go.Proofs.Ytejngjhdmneaiaa.Fli
set_option maxRecDepth 100000
open Go.RowKit Go.Shelf Go.Lib

/-- What Double (f 0), Lose (1) and Land (2) answer: the error, the loads, the load that comes down. -/
noncomputable def tE (l : List (Ld Pm)) (n : Int) (f : Nat) : Int := if askE l n = 0 then turnE l n f else askE l n
noncomputable def tL (l : List (Ld Pm)) (n : Int) (f : Nat) : List (Ld Pm) := if tE l n f = 0 then turnL l n f else []
noncomputable def tX (l : List (Ld Pm)) (n : Int) (f : Nat) : Ld Pm := if tE l n f = 0 then (turnX l n f).getD p0 else p0
theorem askE_zero {l : List (Ld Pm)} {n : Int} : askE l n = 0 ↔ lchk MayM l ∧ 0 ≤ n ∧ n ≤ 1048575 := by
  unfold askE
  by_cases h : lE l = 0
  · rw [if_pos h]
    by_cases hn : 0 ≤ n ∧ n ≤ 1048575
    · rw [if_pos hn]
      exact ⟨fun _ => ⟨lE_zero.1 h, hn⟩, fun _ => rfl⟩
    · rw [if_neg hn]
      exact ⟨fun q => absurd q (by decide), fun q => absurd q.2 hn⟩
  · rw [if_neg h]
    exact ⟨fun q => absurd q h, fun q => absurd (lE_zero.2 q.1) h⟩
theorem SzL.del {l : List (Ld Pm)} (h : SzL l) (n : Int) : SzL (del n l) := ⟨Nat.le_trans (del_len _ _) h.1, fun p hp => h.2 p (List.mem_filter.1 hp).1⟩
theorem SzL.cpy {l : List (Ld Pm)} (h : SzL l) (n : Int) (f : Int → Int) : SzL (cpy n f l) := ⟨by rw [cpy_len]; exact h.1, fun p hp => by
  unfold Fli.cpy at hp
  obtain ⟨z, hz, rfl⟩ := List.mem_map.1 hp
  split
  · exact h.2 z hz
  · exact h.2 z hz⟩
theorem SzM.zero : SzM p0.2.2.2 := ⟨Nat.zero_le _, Nat.zero_le _, Nat.zero_le _, Nat.zero_le _⟩
theorem Lrd.cnt {w : World} {B : Nat} {r : Lr} {p : Ld Pm} (h : Lrd w B r p) {c : Int} {d : Int} (e : c = d) : Lrd w B (r.1, r.2.1, c, r.2.2.2) (p.1, p.2.1, d, p.2.2.2) := ⟨h.nu, h.ep, e, h.pl, h.rd, h.nil⟩
set_option maxHeartbeats 1600000 in
theorem turned_any {w : World} {B a c : Nat} {A : Option Addr} {l : List (Ld Pm)} (n : Int) (h : Lls w B A a c l) (hB : B ≤ w.heap.size) (hz : SzL l) (f : Nat) (hf : f = 0 ∨ f = 1 ∨ f = 2) :
    Calls Try.prog 41 #[.slice A a c, .int .i64 n, .int .u8 (f : Int)] w (TurnR w (tL l n f) (tX l n f) (tE l n f)) := by
  by_cases h0 : askE l n = 0
  case neg =>
    have e1 : tE l n f = askE l n := by unfold tE; rw [if_neg h0]
    have e2 : tL l n f = [] := by unfold tL; rw [e1, if_neg h0]
    have e3 : tX l n f = p0 := by unfold tX; rw [e1, if_neg h0]
    rw [e1, e2, e3]
    exact turned_ask h hB f h0
  have hE : tE l n f = turnE l n f := by unfold tE; rw [if_pos h0]
  obtain ⟨⟨hc1, hc2, hc3⟩, hn⟩ := askE_zero.1 h0
  cases hq : fnd n l with
  | none =>
    have k1 : turnE l n f = 0 := by unfold turnE; rw [hq]
    have e2 : tL l n f = l := by unfold tL turnL; rw [hE, k1, if_pos rfl, hq]
    have e3 : tX l n f = p0 := by unfold tX turnX; rw [hE, k1, if_pos rfl, hq]; rfl
    rw [hE, k1, e2, e3]
    exact turned_none h hB hz f h0 hq
  | some p =>
    obtain ⟨hpm, hpn⟩ := fnd_mem hq
    have hmp := hc2 p hpm
    have hcnt := hmp.2.2.1
    have hset : ∀ (g : Int → Int) (i : Nat), l[i]? = some p → l.take i ++ ([(p.1, p.2.1, g p.2.2.1, p.2.2.2)] ++ l.drop (i + 1)) = cpy n g l := fun g i hi => by
      rw [set_at (List.getElem?_eq_some_iff.1 hi).1, cpy_at hc3 hi g, hpn]
    have hdel : ∀ i : Nat, l[i]? = some p → l.take i ++ (([] : List (Ld Pm)) ++ l.drop (i + 1)) = del n l := fun i hi => by
      rw [List.nil_append, del_at hc3 hi, hpn]
    rcases hf with rfl | rfl | rfl
    · by_cases h16 : p.2.2.1 = 16
      · have k1 : turnE l n 0 = 9 := by unfold turnE; rw [hq]; show (if 0 = 0 then (if p.2.2.1 = 16 then (9 : Int) else 0) else 0) = 9; rw [if_pos rfl, if_pos h16]
        have e2 : tL l n 0 = [] := by unfold tL; rw [hE, k1]; rfl
        have e3 : tX l n 0 = p0 := by unfold tX; rw [hE, k1]; rfl
        rw [hE, k1, e2, e3]
        exact turned_full h hB h0 hq h16
      · have k1 : turnE l n 0 = 0 := by unfold turnE; rw [hq]; show (if 0 = 0 then (if p.2.2.1 = 16 then (9 : Int) else 0) else 0) = 0; rw [if_pos rfl, if_neg h16]
        have e2 : tL l n 0 = cpy n (fun c => c + 1) l := by unfold tL turnL; rw [hE, k1, if_pos rfl, hq]; show (if 0 = 0 then (if p.2.2.1 = 16 then [] else cpy n (fun c => c + 1) l) else _) = _; rw [if_pos rfl, if_neg h16]
        have e3 : tX l n 0 = p0 := by unfold tX turnX; rw [hE, k1, if_pos rfl, hq]; rfl
        rw [hE, k1, e2, e3]
        exact turned_mid (o := [(p.1, p.2.1, p.2.2.1 + 1, p.2.2.2)]) h hB (fun r : Lr => [(r.1, r.2.1, r.2.2.1 + 1, r.2.2.2)]) (fun _ : Lr => (0, 0, 0, D0)) h0 hq (hz.cpy n _) SzM.zero (hset (fun c => c + 1)) (fun X r hr => become_up (by rw [hr.cp]; exact hcnt.1) (by rw [hr.cp]; omega)) (fun X r hr => ⟨PairL.one (hr.cnt (by rw [hr.cp])), Lrd.zero _ _⟩)
    · have k1 : turnE l n 1 = 0 := by unfold turnE; rw [hq]; rfl
      by_cases h1 : 1 < p.2.2.1
      · have e2 : tL l n 1 = cpy n (fun c => c - 1) l := by unfold tL turnL; rw [hE, k1, if_pos rfl, hq]; show (if 1 = 0 then _ else if 1 = 1 then (if 1 < p.2.2.1 then cpy n (fun c => c - 1) l else del n l) else _) = _; rw [if_neg (by decide), if_pos rfl, if_pos h1]
        have e3 : tX l n 1 = p0 := by unfold tX turnX; rw [hE, k1, if_pos rfl, hq]; show Option.getD (if 1 = 0 then _ else if 1 = 1 then (if 1 < p.2.2.1 then none else some p) else _) p0 = _; rw [if_neg (by decide), if_pos rfl, if_pos h1]; rfl
        rw [hE, k1, e2, e3]
        exact turned_mid (o := [(p.1, p.2.1, p.2.2.1 - 1, p.2.2.2)]) h hB (fun r : Lr => [(r.1, r.2.1, r.2.2.1 - 1, r.2.2.2)]) (fun _ : Lr => (0, 0, 0, D0)) h0 hq (hz.cpy n _) SzM.zero (hset (fun c => c - 1)) (fun X r hr => become_down (by rw [hr.cp]; exact h1) (by rw [hr.cp]; exact hcnt.2)) (fun X r hr => ⟨PairL.one (hr.cnt (by rw [hr.cp])), Lrd.zero _ _⟩)
      · have e2 : tL l n 1 = del n l := by unfold tL turnL; rw [hE, k1, if_pos rfl, hq]; show (if 1 = 0 then _ else if 1 = 1 then (if 1 < p.2.2.1 then cpy n (fun c => c - 1) l else del n l) else _) = _; rw [if_neg (by decide), if_pos rfl, if_neg h1]
        have e3 : tX l n 1 = p := by unfold tX turnX; rw [hE, k1, if_pos rfl, hq]; show Option.getD (if 1 = 0 then _ else if 1 = 1 then (if 1 < p.2.2.1 then none else some p) else _) p0 = _; rw [if_neg (by decide), if_pos rfl, if_neg h1]; rfl
        rw [hE, k1, e2, e3]
        exact turned_mid (o := []) h hB (fun _ : Lr => []) (fun r : Lr => r) h0 hq (hz.del n) (hz.2 p hpm) hdel (fun X r hr => become_last (by rw [hr.cp]; exact h1)) (fun X r hr => ⟨PairL.nil _ _, hr⟩)
    · have k1 : turnE l n 2 = 0 := by unfold turnE; rw [hq]; rfl
      have e2 : tL l n 2 = del n l := by unfold tL turnL; rw [hE, k1, if_pos rfl, hq]; rfl
      have e3 : tX l n 2 = p := by unfold tX turnX; rw [hE, k1, if_pos rfl, hq]; rfl
      rw [hE, k1, e2, e3]
      exact turned_mid (o := []) h hB (fun _ : Lr => []) (fun r : Lr => r) h0 hq (hz.del n) (hz.2 p hpm) hdel (fun X r hr => become_land) (fun X r hr => ⟨PairL.nil _ _, hr⟩)
/-- What a call leaves that answers loads and an error. -/
def LstE (w : World) (L : List (Ld Pm)) (er : Int) (e : Ending) (w' : World) : Prop := ∃ (v : Value) (rs : List Lr), e = .returned (.tuple #[v, .int .i64 er]) ∧ Hid (Lof w.heap.size w' v rs L ∧ Below w.heap.size w w')
set_option maxHeartbeats 1600000 in
theorem double_any {w : World} {B a c : Nat} {A : Option Addr} {l : List (Ld Pm)} (n : Int) (h : Lls w B A a c l) (hB : B ≤ w.heap.size) (hz : SzL l) :
    Calls Try.prog 12 #[.slice A a c, .int .i64 n] w (LstE w (tL l n 0) (tE l n 0)) := by
  have HT := hid (turned_any n h hB hz 0 (by simp))
  clear h
  generalize tL l n 0 = L at HT ⊢
  generalize tX l n 0 = X at HT
  generalize tE l n 0 = er at HT ⊢
  go_enter Try.func12, Try.ntmps12
  go_wp2_with fail
  refine HT.out.mono ?_
  rintro e w1 ⟨v, rs, ⟨x, y, z, M⟩, mid, rfl, H1⟩
  have Y1 := hid (Lbx.new w1 0 0 0 D0)
  have B1 := hid ((Below.refl _ w1).alloc (Nat.le_refl w1.heap.size) (.cells (lcells 0 0 0 D0) 40))
  go_wp2_with (first
    | (refine gput_row (P := Try.prog) rfl _ (.tmp 7) (.tmp 14) rfl w1.heap.size 40 _ (lcells x y z M) rfl rfl Y1.out rfl (loadSize x y z M) (lcells_one x y z M) ?_
       intro w4 x4 q4
       have B4 := hid (q4.bel B1.out (Nat.le_refl _)))
    | fail)
  go_ret2
  exact ⟨v, rs, rfl, hid ⟨H1.out.1.below B4.out, gbelow_on H1.out.2.1 (Nat.le_refl _) B4.out⟩⟩
set_option maxHeartbeats 1600000 in
theorem land_any {w : World} {B a c : Nat} {A : Option Addr} {l : List (Ld Pm)} (n : Int) (h : Lls w B A a c l) (hB : B ≤ w.heap.size) (hz : SzL l) :
    Calls Try.prog 14 #[.slice A a c, .int .i64 n] w (TurnR w (tL l n 2) (tX l n 2) (tE l n 2)) := by
  obtain ⟨W, hW⟩ : ∃ W, W = w.alloc (.cells (lcells 0 0 0 D0) 40) := ⟨_, rfl⟩
  have B0 := hid (show Below w.heap.size w W from hW ▸ (Below.refl _ w).alloc (Nat.le_refl _) _)
  have Y0 := hid (show Lbx W w.heap.size 0 0 0 D0 from hW ▸ Lbx.new w 0 0 0 D0)
  have HT := hid (turned_any n ((h.mono hB).below B0.out) B0.out.size hz 2 (by simp))
  have HW := hid hW
  clear hW h
  generalize tL l n 2 = L at HT ⊢
  generalize tX l n 2 = X at HT ⊢
  generalize tE l n 2 = er at HT ⊢
  go_enter Try.func14, Try.ntmps14
  go_upto_region 1 with fail
  have hW2 : (w.alloc (.cells #[.int .i64 0, .int .i64 0, .int .i64 0, .bool false, .slice none 0 0, .int .i64 0, .bool false, .slice none 0 0, .int .i64 0, .bool false, .slice none 0 0, .int .i64 0, .bool false, .slice none 0 0, .int .i64 0] 40)) = W := HW.out.symm
  rw [hW2]
  clear hW2
  go_wp2_with fail
  refine HT.out.mono ?_
  rintro e w1 ⟨v, rs, ⟨x, y, z, M⟩, mid, rfl, H1⟩
  have Y1 := hid (Y0.out.below H1.out.2.1 Y0.out.lt)
  have B1 := hid (gbelow_on B0.out (Nat.le_refl _) H1.out.2.1)
  go_wp2_with (first
    | (refine gput_row (P := Try.prog) rfl _ (.tmp 5) (.tmp 11) rfl w.heap.size 40 _ (lcells x y z M) rfl rfl Y1.out rfl (loadSize x y z M) (lcells_one x y z M) ?_
       intro w4 x4 q4
       have H4 := hid (And.intro (H1.out.1.gq q4 Y0.out.lt) (And.intro (q4.bel B1.out (Nat.le_refl _)) (H1.out.2.2.1.gq q4 (Nat.lt_of_lt_of_le Y0.out.lt H1.out.2.2.2.2)))))
    | fail)
  refine ret_load3 (g := w.heap.size) (x := x) (y := y) (z := z) (M := M) rfl rfl rfl rfl rfl x4 ?_
  exact ⟨v, rs, (x, y, z, M), mid, rfl, hid ⟨H4.out.1.mono B0.out.size, H4.out.2.1, H4.out.2.2, H1.out.2.2.2.1, Nat.le_trans B0.out.size H1.out.2.2.2.2⟩⟩
set_option maxHeartbeats 1600000 in
theorem lose_any {w : World} {B a c : Nat} {A : Option Addr} {l : List (Ld Pm)} (n : Int) (h : Lls w B A a c l) (hB : B ≤ w.heap.size) (hz : SzL l) :
    Calls Try.prog 16 #[.slice A a c, .int .i64 n] w (TurnR w (tL l n 1) (tX l n 1) (tE l n 1)) := by
  obtain ⟨W, hW⟩ : ∃ W, W = w.alloc (.cells (lcells 0 0 0 D0) 40) := ⟨_, rfl⟩
  have B0 := hid (show Below w.heap.size w W from hW ▸ (Below.refl _ w).alloc (Nat.le_refl _) _)
  have Y0 := hid (show Lbx W w.heap.size 0 0 0 D0 from hW ▸ Lbx.new w 0 0 0 D0)
  have HT := hid (turned_any n ((h.mono hB).below B0.out) B0.out.size hz 1 (by simp))
  have HW := hid hW
  clear hW h
  generalize tL l n 1 = L at HT ⊢
  generalize tX l n 1 = X at HT ⊢
  generalize tE l n 1 = er at HT ⊢
  go_enter Try.func16, Try.ntmps16
  go_upto_region 1 with fail
  have hW2 : (w.alloc (.cells #[.int .i64 0, .int .i64 0, .int .i64 0, .bool false, .slice none 0 0, .int .i64 0, .bool false, .slice none 0 0, .int .i64 0, .bool false, .slice none 0 0, .int .i64 0, .bool false, .slice none 0 0, .int .i64 0] 40)) = W := HW.out.symm
  rw [hW2]
  clear hW2
  go_wp2_with fail
  refine HT.out.mono ?_
  rintro e w1 ⟨v, rs, ⟨x, y, z, M⟩, mid, rfl, H1⟩
  have Y1 := hid (Y0.out.below H1.out.2.1 Y0.out.lt)
  have B1 := hid (gbelow_on B0.out (Nat.le_refl _) H1.out.2.1)
  go_wp2_with (first
    | (refine gput_row (P := Try.prog) rfl _ (.tmp 5) (.tmp 11) rfl w.heap.size 40 _ (lcells x y z M) rfl rfl Y1.out rfl (loadSize x y z M) (lcells_one x y z M) ?_
       intro w4 x4 q4
       have H4 := hid (And.intro (H1.out.1.gq q4 Y0.out.lt) (And.intro (q4.bel B1.out (Nat.le_refl _)) (H1.out.2.2.1.gq q4 (Nat.lt_of_lt_of_le Y0.out.lt H1.out.2.2.2.2)))))
    | fail)
  refine ret_load3 (g := w.heap.size) (x := x) (y := y) (z := z) (M := M) rfl rfl rfl rfl rfl x4 ?_
  exact ⟨v, rs, (x, y, z, M), mid, rfl, hid ⟨H4.out.1.mono B0.out.size, H4.out.2.1, H4.out.2.2, H1.out.2.2.2.1, Nat.le_trans B0.out.size H1.out.2.2.2.2⟩⟩
end Go.Proofs.Ytejngjhdmneaiaa.Fli
