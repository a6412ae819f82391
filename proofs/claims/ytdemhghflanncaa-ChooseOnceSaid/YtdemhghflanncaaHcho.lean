/- The document's Chosen. -/
import Derived.Test.YtdemhghflanncaaHsame
import Derived.Test.YtdemhghflanncaaCone
namespace Go.Proofs.Ytdemhghflanncaa
open Go.RowKit Go.Shelf Go.Lib

theorem Ds.dropo {w : World} {B n c g off : Nat} {l : List De} (h : Ds w B (some ⟨g, off, none⟩) n c l) {p : Nat} (hp : p ≤ n) : Ds w B (some ⟨g, off + p * 2, none⟩) (n - p) (c - p) (l.drop p) := by
  have hl := h.len
  have hcap := h.cap
  refine ⟨by rw [List.length_drop]; omega, by omega, Nat.le_trans (by omega) h.max, fun hA => (by cases hA), fun h0 => ?_⟩
  obtain ⟨b, o', e, hB, hc⟩ := h.at_ (by omega)
  injection e with e
  injection e with e1 e2
  subst e1
  subst e2
  refine ⟨g, off + p * 2, rfl, hB, fun j d hj => ?_⟩
  rw [List.getElem?_drop] at hj
  have := hc _ d hj
  rw [show off + (p + j) * 2 = off + p * 2 + j * 2 by omega] at this
  exact this
theorem Ds.turn {w w' : World} {v v' : Value} {B n c : Nat} {A : Option Addr} {l l' : List De} (h : Ds w w.heap.size A n c l) (hT : Turned w w' B v v' l') (hne : ∀ a, A = some a → v.ownBlock ≠ some a.block) : Ds w' w'.heap.size A n c l :=
  ⟨h.len, h.cap, h.max, h.nil, fun hn => by
    obtain ⟨b, off, rfl, hB, hc⟩ := h.at_ hn
    have hb := hT.grown.block b hB (fun e => hne _ rfl e.symm)
    refine ⟨b, off, rfl, Nat.lt_of_lt_of_le hB hT.grown.size, fun i d hd => ?_⟩
    obtain ⟨h1, h2⟩ := hc i d hd
    exact ⟨(World.cell?_of_block (a := ⟨b, off + i * 2, none⟩) hb).trans h1, (World.cell?_of_block (a := ⟨b, off + i * 2 + 1, none⟩) hb).trans h2⟩⟩
theorem od_lett {w : World} {B : Nat} {v : Value} {l : List De} (h : Od w B v l) : ∃ A n c, v = .slice A n c ∧ Od w B (.slice A n c) l ∧ Ds w w.heap.size A n c l := by
  obtain ⟨A, c, rfl, hD, _⟩ := h.form
  exact ⟨A, _, c, rfl, h, hD⟩
theorem own_at {w : World} {B n c : Nat} {A : Option Addr} {l : List De} (h : Od w B (.slice A n c) l) : ∀ a, A = some a → B ≤ a.block := fun a ha => (own_lt h a.block (by rw [ha]; rfl)).1
theorem erase_two (l : List De) (a : Nat) : l.take a ++ l.drop (a + 1) = l.eraseIdx a := (List.eraseIdx_eq_take_drop_succ l a).symm

set_option maxHeartbeats 6400000 in
set_option maxRecDepth 100000 in
theorem chosen_any {w : World} {B C n c m d : Nat} {A D : Option Addr} {l : List De} {r : List Nat} (h : Ds w B A n c l) (k : Us w C D m d r) (hB : B ≤ w.heap.size) (hC : C ≤ w.heap.size) (hn : n ≤ 1000) (hm : m ≤ 1000) :
    Calls Try.prog 28 #[.slice A n c, .slice D m d] w fun e w' => ∃ v, e = .returned v ∧ Hid (Od w' w.heap.size v (chs l r) ∧ Below w.heap.size w w') := by
  have mixed : Try.prog.follows .mixedOrders = true := by kernel_rfl
  have H0 := hid (h.mono hB)
  have K := hid (k.mono hC)
  have HR := hid k.len
  have hcap0 := h.cap
  have hcap2 := k.cap
  have HFit := hid k.fit
  clear h k
  go_enter Try.func28, Try.ntmps28
  go_wp2
  go_loopg [0, 5, 6, 7] m (fun gg s0 s5 s6 _ wr => ∃ (i q c' : Nat) (A' : Option Addr) (t u : List De), i ≤ m ∧ m - i ≤ gg ∧ s6 = .int .i64 i ∧ s0 = .slice A' q c' ∧ q ≤ 1000 ∧ q ≤ c' ∧ Hid (Ds wr wr.heap.size A' q c' t) ∧ Hid (∀ a, A' = some a → s5.ownBlock ≠ some a.block) ∧ Hid (Od wr w.heap.size s5 u ∧ u.length ≤ i) ∧ Hid (Below w.heap.size w wr) ∧ Hid (chs l r = u ++ chs t (r.drop i)))
  case atStart => exact ⟨0, n, c, A, l, [], Nat.zero_le _, by omega, rfl, rfl, hn, hcap0, H0, hid (fun _ _ => by simp [Value.ownBlock]), hid ⟨Od.nil w _, Nat.zero_le _⟩, hid (Below.refl _ w), hid rfl⟩
  case round =>
    clear hcap0 hn H0
    obtain ⟨i, q, c', A', t, u, hi, hg, rfl, rfl, hq, hcap, HT, HAp, HU, BW, HE⟩ := hrel
    by_cases hlt : i < m
    case neg =>
      have hltz : ¬ (i : Int) < (m : Int) := by omega
      obtain rfl : i = m := by omega
      go_wp2
      go_ret
      refine ⟨_, rfl, hid ⟨?_, BW.out⟩⟩
      rw [HE.out, List.drop_of_length_le (by rw [HR.out]; exact Nat.le_refl _), chs_none, List.append_nil]
      exact HU.out.1
    have hltz : (i : Int) < (m : Int) := by omega
    by_cases hq0 : 0 < q
    case neg =>
      have hqz : ¬ (q : Int) > 0 := by omega
      obtain rfl : q = 0 := by omega
      go_wp2
      go_ret
      refine ⟨_, rfl, hid ⟨?_, BW.out⟩⟩
      rw [HE.out, List.length_eq_zero_iff.1 HT.out.len, chs_nil, List.append_nil]
      exact HU.out.1
    have hqz : (q : Int) > 0 := by omega
    obtain ⟨x, hx⟩ := K.out.get hlt
    obtain ⟨db, doff, rfl, hdb, hdc⟩ := (K.out.below BW.out).at_ (by omega)
    have c0 := hdc i x hx
    have hxf := HFit.out x (List.mem_of_getElem? hx)
    obtain ⟨a, ha⟩ : ∃ a, a = x % q := ⟨_, rfl⟩
    have haq : a < q := by rw [ha]; exact Nat.mod_lt _ hq0
    obtain ⟨y, hy⟩ := HT.out.get haq
    have HX := hid (show chs t (r.drop i) = y :: chs (t.eraseIdx a) (r.drop (i + 1)) from by
      have h1 : r.drop i = x :: r.drop (i + 1) := by
        obtain ⟨h2, rfl⟩ := List.getElem?_eq_some_iff.1 hx
        exact List.drop_eq_getElem_cons h2
      have h3 : x % t.length = a := by rw [HT.out.len, ha]
      rw [h1, chs_cons (x := y) (by rw [h3]; exact hy), h3])
    obtain ⟨b, off, rfl, hbB, hc⟩ := HT.out.at_ (by omega)
    obtain ⟨c1, c2⟩ := hc a y hy
    obtain ⟨y1, y2⟩ := y
    change wr.cell? ⟨b, off + a * 2, none⟩ = some (.int .i64 y1) at c1
    change wr.cell? ⟨b, off + a * 2 + 1, none⟩ = some (.int .i64 y2) at c2
    have hr1 : ((x : Int)).tmod (q : Int) = (a : Int) := by rw [ha]; rfl
    have hr2 : (x : Int) % (q : Int) = (a : Int) := by rw [ha]; rfl
    have hw1 : IntKind.u64.wrap (q : Int) = (q : Int) := by rw [IntKind.wrap_u64]; omega
    have hw2 : IntKind.u64.wrap (a : Int) = (a : Int) := by rw [IntKind.wrap_u64]; omega
    have hqne : ¬ (q : Int) = 0 := by omega
    have haz : (a : Int) < (q : Int) := by omega
    have HA := hid ha
    clear hdc hc hx hy ha
    have hul : u.length ≤ 1000 := by have := HU.out.2; omega
    obtain ⟨A5, n5, c5, hv5, o5, _⟩ := od_lett HU.out.1
    subst hv5
    have HU5 := hid HU.out.2
    have HM := hid (heap_alloc_new wr (.cells #[.int .i64 y1, .int .i64 y2] 23))
    have HOd := hid (HU.out.1.below ((Below.refl wr.heap.size wr).alloc (Nat.le_refl _) (.cells #[.int .i64 y1, .int .i64 y2] 23)))
    have HBd := hid (BW.out.alloc BW.out.size (.cells #[.int .i64 y1, .int .i64 y2] 23))
    have HTd := hid (HT.out.below ((Below.refl wr.heap.size wr).alloc (Nat.le_refl _) (.cells #[.int .i64 y1, .int .i64 y2] 23)))
    go_upto_region 7 with (first | (at_builtin; refine list_appD rfl (.tmp 28) (.tmp 33) rfl (v := .slice A5 n5 c5) (B := w.heap.size) (l := u) (r := [(y1, y2)]) rfl rfl HOd.out (ds_at HM.out) (by omega) HBd.out.size ?_; intro v34 w34 HTU) | fail)
    have HU1 := hid HTU.out.own
    have b34 := hid (HTU.out.below (fun k hk => (own_lt HOd.out k hk).1) HBd.out.size)
    have BX := hid (HBd.out.trans b34.out)
    have HNT := hid ((HTd.out.mono (by simp)).turn HTU.out HAp.out)
    have HV34 := hid (fun k (hk : v34.ownBlock = some k) => (own_lt HU1.out k hk).2)
    clear HTU HOd HTd HM b34 HT HU c1 c2 c0 hdb HBd
    obtain ⟨s, hs⟩ : ∃ s, s = t.eraseIdx a := ⟨_, rfl⟩
    have HSE := hid (show t.take a ++ t.drop (a + 1) = s from by rw [hs]; exact erase_two t a)
    rw [← hs] at HX
    have hsl : t.length = q := HNT.out.len
    have HSL := hid (show s.length = q - 1 from by rw [hs, List.length_eraseIdx, if_pos (by omega), hsl])
    clear hs
    have hw3 : IntKind.i64.wrap ((a : Int) + 1) = (a : Int) + 1 := by rw [IntKind.wrap_i64]; omega
    have htn : ((a : Int) + 1).toNat = a + 1 := by omega
    have hb1 : (0 : Int) ≤ (a : Int) + 1 := by omega
    have hb2 : (a : Int) + 1 ≤ (q : Int) := by omega
    have hb3 : (a : Int) ≤ (c' : Int) := by omega
    have ha1 : a + 1 ≤ c' := by omega
    have HN1 : Hid ((w34.alloc (.cells #[] 23)).drew.heap[w34.heap.size]? = some (.cells #[] 23 (0, 0))) := hid (heap_alloc_new w34 _)
    have HB1 : Hid (Below w34.heap.size w34 (w34.alloc (.cells #[] 23)).drew) := hid (((Below.refl _ w34).alloc (Nat.le_refl _) _).drew)
    have HS1 : Hid (∀ X, Below w34.heap.size w34 X → Ds X w34.heap.size (some ⟨b, off, none⟩) a c' (t.take a)) := hid fun X hb => (HNT.out.first (by omega)).below hb
    clear hsl
    by_cases hpc : c' = a + 1
    · subst hpc
      have HS3 : Hid (∀ (X : World) (z : Addr) (k : Nat), Ds X w34.heap.size (some z) 0 k (t.drop (a + 1))) := hid fun X z k => by rw [List.drop_of_length_le (by rw [HNT.out.len]; omega)]; exact Ds.none' _ _ _ _
      obtain rfl : q = a + 1 := by omega
      have hb4 : (a : Int) ≤ (a : Int) + 1 := by omega
      go_upto_region 7 with fail
      go_region_law (first
        | (refine step_appD rfl (.tmp 35) (.tmp 38) rfl rfl rfl (v := .slice (some ⟨w34.heap.size, 0, none⟩) 0 0) (B := w34.heap.size) (C := w34.heap.size) (l := []) (r := t.take a) (by with_reducible exact od_at HN1.out (Nat.le_refl _)) (by with_reducible exact HS1.out _ HB1.out) (by simp only [List.length_nil]; omega) (by with_reducible exact HB1.out.size) ?_
           intro v39 w39 HT1
           have HO39 : Hid (Od w39 w34.heap.size v39 (t.take a)) := hid HT1.out.own
           have HBw : Hid (Below w34.heap.size w34 w39) := hid (HB1.out.trans (HT1.out.below (own_new (Nat.le_refl _)) HB1.out.size)))
        | (refine step_appD rfl (.tmp 39) (.tmp 43) rfl rfl rfl (v := v39) (B := w34.heap.size) (l := t.take a) (r := t.drop (a + 1)) HO39.out (HS3.out _ _ _) (by rw [List.length_take]; omega) HBw.out.size ?_
           intro v44 w44 HT2
           have HO44 : Hid (Od w44 w34.heap.size v44 s) := hid (by rw [← HSE.out]; exact HT2.out.own)
           have HBx : Hid (Below w34.heap.size w34 w44) := hid (HBw.out.trans (HT2.out.below (fun k hk => (own_lt HO39.out k hk).1) HBw.out.size))))
      all_goals
        obtain ⟨A4, n4, c4, hv4, o4, d4⟩ := od_lett HO44.out
        subst hv4
        have D4 := hid d4
        have HN4 := hid (show n4 = (a + 1) - 1 from d4.len.symm.trans HSL.out)
        have hc4 := d4.cap
        have HO4 := hid o4
        clear d4 o4 HT1 HT2
        go_wp2
        go_roundg (m - (i + 1))
        case measure => omega
        case rel =>
          refine ⟨i + 1, n4, c4, A4, s, u ++ [(y1, y2)], by omega, by omega, by go_num, rfl, by have := HN4.out; omega, hc4, D4, hid (fun a0 ha0 e => ?_), hid ⟨HU1.out.below (HBx.out), by rw [List.length_append, List.length_singleton]; have := HU5.out; omega⟩, hid (BX.out.trans (HBx.out.mono BX.out.size)), hid ?_⟩
          · have h1 := HV34.out _ e
            have h2 := own_at HO4.out a0 ha0
            omega
          · rw [HE.out, HX.out, List.append_assoc]
            rfl
    · have HS3 : Hid (∀ X, Below w34.heap.size w34 X → Ds X w34.heap.size (some ⟨b, off + (a + 1) * 2, none⟩) (q - (a + 1)) (c' - (a + 1)) (t.drop (a + 1))) := hid fun X hb => (HNT.out.dropo (by omega)).below hb
      go_upto_region 7 with fail
      go_region_law (first
        | (refine step_appD rfl (.tmp 35) (.tmp 38) rfl rfl rfl (v := .slice (some ⟨w34.heap.size, 0, none⟩) 0 0) (B := w34.heap.size) (C := w34.heap.size) (l := []) (r := t.take a) (by with_reducible exact od_at HN1.out (Nat.le_refl _)) (by with_reducible exact HS1.out _ HB1.out) (by simp only [List.length_nil]; omega) (by with_reducible exact HB1.out.size) ?_
           intro v39 w39 HT1
           have HO39 : Hid (Od w39 w34.heap.size v39 (t.take a)) := hid HT1.out.own
           have HBw : Hid (Below w34.heap.size w34 w39) := hid (HB1.out.trans (HT1.out.below (own_new (Nat.le_refl _)) HB1.out.size)))
        | (refine step_appD rfl (.tmp 39) (.tmp 43) rfl rfl rfl (v := v39) (B := w34.heap.size) (l := t.take a) (r := t.drop (a + 1)) HO39.out (HS3.out _ HBw.out) (by rw [List.length_take]; omega) HBw.out.size ?_
           intro v44 w44 HT2
           have HO44 : Hid (Od w44 w34.heap.size v44 s) := hid (by rw [← HSE.out]; exact HT2.out.own)
           have HBx : Hid (Below w34.heap.size w34 w44) := hid (HBw.out.trans (HT2.out.below (fun k hk => (own_lt HO39.out k hk).1) HBw.out.size))))
      all_goals
        obtain ⟨A4, n4, c4, hv4, o4, d4⟩ := od_lett HO44.out
        subst hv4
        have D4 := hid d4
        have HN4 := hid (show n4 = q - 1 from d4.len.symm.trans HSL.out)
        have hc4 := d4.cap
        have HO4 := hid o4
        clear d4 o4 HT1 HT2
        go_wp2
        go_roundg (m - (i + 1))
        case measure => omega
        case rel =>
          refine ⟨i + 1, n4, c4, A4, s, u ++ [(y1, y2)], by omega, by omega, by go_num, rfl, by have := HN4.out; omega, hc4, D4, hid (fun a0 ha0 e => ?_), hid ⟨HU1.out.below (HBx.out), by rw [List.length_append, List.length_singleton]; have := HU5.out; omega⟩, hid (BX.out.trans (HBx.out.mono BX.out.size)), hid ?_⟩
          · have h1 := HV34.out _ e
            have h2 := own_at HO4.out a0 ha0
            omega
          · rw [HE.out, HX.out, List.append_assoc]
            rfl
end Go.Proofs.Ytdemhghflanncaa
