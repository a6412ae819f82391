/- Ether, the program: together, put, Send: the answer is a row of the call's own. -/
import Derived.Test.YtbpijlghdpflgaaDoorYpd
namespace Go.Proofs.YtbpijlghdpflgaaDoor.Eth
open Go.RowKit Go.Shelf Go.Lib

/-- What together leaves: a row of its own. -/
def TgO (w : World) (l : List Cp) (e : Ending) (w' : World) : Prop := ∃ A' n' c' rs, e = .returned (.slice A' n' c') ∧ Hid (Cow w' (fun q => w.heap.size ≤ q) A' n' c' rs l ∧ Below w.heap.size w w' ∧ n' = l.length ∧ Gw w' w.heap.size 28 4 (.slice A' n' c') n' (cellsC rs))
/-- What Send leaves. -/
def LstO (w : World) (q : Int) (l : List Cp) (e : Ending) (w' : World) : Prop := ∃ A' n' c' rs, e = .returned (.tuple #[.slice A' n' c', .int .i64 q]) ∧ Hid (Cow w' (fun q => w.heap.size ≤ q) A' n' c' rs l ∧ Below w.heap.size w w' ∧ n' = l.length ∧ Gw w' w.heap.size 28 4 (.slice A' n' c') n' (cellsC rs))
theorem lsto_on {w w1 w' : World} {l : List Cp} {A' : Option Addr} {n' c' : Nat} {rs : List Cr} {q : Int} (hb : Below w.heap.size w w1) (h : Cow w' (fun k => w1.heap.size ≤ k) A' n' c' rs l ∧ Below w1.heap.size w1 w' ∧ n' = l.length ∧ Gw w' w1.heap.size 28 4 (.slice A' n' c') n' (cellsC rs)) :
    LstO w q l (.returned (.tuple #[.slice A' n' c', .int .i64 q])) w' := ⟨_, _, _, _, rfl, hid ⟨h.1.mono (fun _ hk => Nat.le_trans hb.size hk), gbelow_on hb (Nat.le_refl _) h.2.1, h.2.2.1, h.2.2.2.mono hb.size⟩⟩

set_option maxHeartbeats 6400000 in
set_option maxRecDepth 100000 in
theorem together_own {w : World} {B m cc g off : Nat} {vs : List (Option Addr × Nat × Nat)} {ls : List (List Cp)} (hr : Gs w B (some ⟨g, off, none⟩) m cc 1 (cellsS vs)) (hl : Lss w B vs ls) (hB : B ≤ w.heap.size) (hn : ls.flatten.length ≤ 1000) (hT : ∀ l ∈ ls, ∀ p ∈ l, p.2.2.1.length ≤ 50000) :
    Calls Tryd.prog 26 #[.slice (some ⟨g, off, none⟩) m cc] w (TgO w ls.flatten) := by
  have R := hid (hr.mono hB)
  have L := hid (hl.mono hB)
  have hcap := hr.cap
  have hmax := hr.max
  have HM := hid (show vs.length = m by have := hr.len; unfold cellsS at this; rw [List.length_map] at this; omega)
  have HL := hid (show ls.length = m by rw [← hl.1]; exact HM.out)
  have HT := hid hT
  have HN := hid hn
  clear hr hl hB hT hn
  go_enter Tryd.func26, Tryd.ntmps26
  go_wp2
  go_loopg [3, 10] m (fun gg s3 s10 wr => ∃ (kk : Nat) (v : Value) (rs : List Cr), kk ≤ m ∧ m - kk ≤ gg ∧ s10 = .int .i64 kk ∧ v = s3 ∧ Hid (TwI w w.heap.size v rs (ls.take kk).flatten wr))
  case atStart => exact ⟨0, _, [], Nat.zero_le _, by omega, rfl, rfl, hid ⟨Gw.nil _ _ _ _, Pair.nil _ _, by simp, Below.refl _ _⟩⟩
  case round =>
    obtain ⟨kk, v, rs, hkk, hg, rfl, rfl, HI⟩ := hrel
    by_cases hlt : kk < m
    · have hltz : (kk : Int) < (m : Int) := by omega
      obtain ⟨⟨A', n', c'⟩, hv⟩ : ∃ u, vs[kk]? = some u := ⟨_, List.getElem?_eq_getElem (by rw [HM.out]; exact hlt)⟩
      obtain ⟨l, hl⟩ : ∃ u, ls[kk]? = some u := ⟨_, List.getElem?_eq_getElem (by rw [HL.out]; exact hlt)⟩
      have hC := L.out.2 kk _ _ hv hl
      change Cls w w.heap.size A' n' c' l at hC
      have HCl := hid hC
      have hcap2 := hC.cap
      have hmax2 := hC.max
      have HLN := hid hC.len
      have HFL := hid (flat_len hl)
      have HFT := hid (flat_take hl)
      have HTl := hid (HT.out l (List.mem_of_getElem? hl))
      obtain ⟨b0, off0, e0, hb0, hc0⟩ := (R.out.below HI.out.bel).at_ (by omega)
      obtain ⟨rfl, rfl⟩ : g = b0 ∧ off = off0 := by injection e0 with e0; injection e0 with e1 e2; exact ⟨e1, e2⟩
      have k0 := hc0 kk _ (cellsS_get hv)
      change wr.cell? ⟨g, off + kk, none⟩ = some (.slice A' n' c') at k0
      clear hv hl hC e0 hc0
      have I0 := HI
      go_upto_block 0 with fail
      go_loopg [3, 16] n' (fun gg s3 s16 wr => ∃ (j : Nat) (v : Value) (rs : List Cr), j ≤ n' ∧ n' - j ≤ gg ∧ s16 = .int .i64 j ∧ v = s3 ∧ Hid (TwI w w.heap.size v rs ((ls.take kk).flatten ++ l.take j) wr))
      case atStart => exact ⟨0, _, rs, Nat.zero_le _, by omega, rfl, rfl, hid (by rw [List.take_zero, List.append_nil]; exact I0.out)⟩
      case round =>
        clear k0 I0 HI
        obtain ⟨j, v, rs, hj, hg2, rfl, rfl, HI⟩ := hrel
        by_cases hlt2 : j < n'
        · have hltz2 : (j : Int) < (n' : Int) := by omega
          obtain ⟨b, o, x, y, A2, n2, c2, t, s, rfl, hb, hp, c0, c1, c2', c3, ht, hf⟩ := (HCl.out.below HI.out.bel).get hlt2
          have HP := hid hp
          have hn2 : n2 ≤ 50000 := by have := HTl.out _ (List.mem_of_getElem? hp); simp only at this; have := ht.blen; omega
          obtain ⟨M, hM⟩ : ∃ M, M = (ls.take kk).flatten ++ l.take j := ⟨_, rfl⟩
          rw [← hM] at HI
          have hML : M.length ≤ 1000 := by
            have h1 := HFL.out
            have h2 := HN.out
            rw [hM, List.length_append, List.length_take]
            omega
          have HMe := hid hM
          have hsz := HI.out.bel.size
          have CT := hid (fun (X : World) (hX : Below wr.heap.size wr X) => tw_any (w := X) (x := x) (y := y) (s := s) (ht.below (hX.mono hsz)) hf (Nat.le_trans hsz hX.size) hn2)
          have HAl := hid (fun (o : Obj) => (Below.refl wr.heap.size wr).alloc (Nat.le_refl _) o)
          clear hM hp ht hf
          go_wp2_with (first
            | (go_at_call 39
               refine (CT.out _ (HAl.out _)).mono ?_
               rintro e w3 ⟨A3, c3, rfl, h3⟩
               have B3 := hid (gbelow_on (HAl.out (.cells #[.int .i64 x, .int .i64 y, .slice A2 n2 c2, .bool s] 28)) (Nat.le_refl _) h3.out.2.2)
               have T3 := hid (h3.out.1.mono (T := fun q => w.heap.size ≤ q) (fun q (hq : (wr.alloc (.cells #[.int .i64 x, .int .i64 y, .slice A2 n2 c2, .bool s] 28)).heap.size ≤ q) => Nat.le_trans (Nat.le_trans hsz (HAl.out _).size) hq))
               have C3 := hid h3.out.2.1
               have b4 := hid ((Below.refl w3.heap.size w3).alloc (Nat.le_refl _) (.cells #[.int .i64 x, .int .i64 y, .slice A3 n2 c3, .bool s] 28))
               have I4 := hid (HI.out.kept (gbelow_on B3.out (Nat.le_refl _) b4.out) (gbelow_on (gbelow_on HI.out.bel (Nat.le_refl _) B3.out) (Nat.le_refl _) b4.out))
               have G4 := hid (Gs.new (cs := cellsC [(x, y, (A3, n2, c3), s)]) (k := 4) (n := 1) (c := 1) (B := w3.heap.size + 1) (heap_alloc_new w3 (.cells #[.int .i64 x, .int .i64 y, .slice A3 n2 c3, .bool s] 28)) (Nat.lt_succ_self _) rfl (Nat.le_refl _) (by omega))
               clear h3)
            | (at_builtin
               refine list_appC (v := v) (cs := cellsC rs) (rs := [(x, y, (A3, n2, c3), s)]) rfl _ _ rfl rfl rfl I4.out.row G4.out (by omega) I4.out.bel.size ?_
               intro v5 w5 T5
               have K8 := hid (Keep8.of_below (S := fun q => w.heap.size ≤ q) b4.out)
               have I5 := hid (I4.out.snoc I4.out.bel.size T5.out (T3.out.kept K8.out) (C3.out.on (Nat.le_refl _) b4.out)))
            | fail)
          go_roundg (n' - (j + 1))
          case measure => omega
          case rel => exact ⟨j + 1, v5, _, by omega, by omega, by go_num, rfl, hid (by rw [take_cp HP.out, ← List.append_assoc, ← HMe.out]; exact I5.out)⟩
        · have hltz2 : ¬ (j : Int) < (n' : Int) := by omega
          obtain rfl : j = n' := by omega
          have I6 := hid (show TwI w w.heap.size v rs (ls.take (kk + 1)).flatten wr from by
            rw [HFT.out]
            have := HI.out
            rwa [List.take_of_length_le (l := l) (by rw [HLN.out]; exact Nat.le_refl _)] at this)
          go_wp2
          go_roundg (m - (kk + 1))
          case measure => omega
          case rel => exact ⟨kk + 1, v, rs, by omega, by omega, by go_num, rfl, I6⟩
    · have hltz : ¬ (kk : Int) < (m : Int) := by omega
      obtain rfl : kk = m := by omega
      obtain ⟨h1, h2, h3, h4⟩ := HI.out
      rw [List.take_of_length_le (by rw [HL.out]; exact Nat.le_refl _)] at h1 h2
      obtain ⟨N, hN⟩ : ∃ N, N = ls.flatten.length := ⟨_, rfl⟩
      rw [← hN] at h1
      have HNe := hid hN
      clear hN
      obtain ⟨A2, c2, rfl, g2, m2, a2, o2⟩ := h1.form
      have R := hid (show Cow wr (fun q => w.heap.size ≤ q) A2 N c2 rs ls.flatten from ⟨g2, h2, h3, fun h0 => by
        rcases h1.own.2 with ⟨e, e0⟩ | ⟨g, cap, cur, e, hB, hh, hm, _, hs, _⟩
        · omega
        · injection e with e1 e2 e3
          subst e1 e3
          exact ⟨g, 0, cur, rfl, hB, hh, by omega⟩⟩)
      have BW := hid h4
      have G1 := hid h1
      clear h1 h2 h3 h4 g2 m2 a2 o2
      go_wp2
      go_ret
      exact ⟨A2, N, c2, rs, rfl, hid ⟨R.out, BW.out, HNe.out, G1.out⟩⟩

set_option maxHeartbeats 3200000 in
set_option maxRecDepth 100000 in
theorem put_own {w : World} {B C n m d c : Nat} {A D : Option Addr} {l : List Cp} {x y : Int} {t : List Nat} {s : Bool} (h : Cls w B A n c l) (hB : B ≤ w.heap.size) (hn : n < 16) (hT : ∀ p ∈ l, MayC p) (ht : Gs w C D m d 1 (cellsB t)) (hf : ∀ b ∈ t, b < 256) (hC : C ≤ w.heap.size) (hm : m ≤ 50000) :
    Calls Tryd.prog 22 #[.slice A n c, .agg #[.int .i64 x, .int .i64 y, .slice D m d, .bool s]] w (LstO w 0 (l ++ [(x, y, t, s)])) := by
  obtain ⟨W, hW⟩ : ∃ W, W = w.alloc (.cells #[.int .i64 x, .int .i64 y, .slice D m d, .bool s] 28) := ⟨_, rfl⟩
  have B0 := hid (show Below w.heap.size w W from hW ▸ (Below.refl _ w).alloc (Nat.le_refl _) _)
  have X0 := hid (show Cbx W w.heap.size x y D m d s from hW ▸ Cbx.new w x y D m d s)
  have x0 := X0.out.c0
  have x1 := X0.out.c1
  have x2 := X0.out.c2
  have x3 := X0.out.c3
  have HW := hid hW
  have H0 := hid (h.on hB B0.out)
  have T0 := hid (ht.on hC B0.out)
  have hl := h.len
  have ho := cls_one (x := x) (y := y) (s := s) T0.out hf
  have hb1 : Below W.heap.size W (W.alloc (.cells #[.int .i64 x, .int .i64 y, .slice D m d, .bool s] 28)) := (Below.refl _ W).alloc (Nat.le_refl _) _
  have hs1 : (W.alloc (.cells #[.int .i64 x, .int .i64 y, .slice D m d, .bool s] 28)).heap.size = W.heap.size + 1 := by simp
  have hb2 : Below (W.heap.size + 1) (W.alloc (.cells #[.int .i64 x, .int .i64 y, .slice D m d, .bool s] 28)) ((W.alloc (.cells #[.int .i64 x, .int .i64 y, .slice D m d, .bool s] 28)).alloc (.cells #[.slice A n c, .slice (some ⟨W.heap.size, 0, none⟩) 1 1] 22)) := by
    rw [← hs1]
    exact (Below.refl _ _).alloc (Nat.le_refl _) _
  have h2 := heap_alloc_new (W.alloc (.cells #[.int .i64 x, .int .i64 y, .slice D m d, .bool s] 28)) (.cells #[.slice A n c, .slice (some ⟨W.heap.size, 0, none⟩) 1 1] 22)
  rw [hs1] at h2 ho
  have hz : W.heap.size + 1 < ((W.alloc (.cells #[.int .i64 x, .int .i64 y, .slice D m d, .bool s] 28)).alloc (.cells #[.slice A n c, .slice (some ⟨W.heap.size, 0, none⟩) 1 1] 22)).heap.size := by simp
  have BB := hid (below_two W (.cells #[.int .i64 x, .int .i64 y, .slice D m d, .bool s] 28) (.cells #[.slice A n c, .slice (some ⟨W.heap.size, 0, none⟩) 1 1] 22))
  have CT := hid (together_own (w := (W.alloc (.cells #[.int .i64 x, .int .i64 y, .slice D m d, .bool s] 28)).alloc (.cells #[.slice A n c, .slice (some ⟨W.heap.size, 0, none⟩) 1 1] 22))
    (Gs.new (cs := cellsS [(A, n, c), (some ⟨W.heap.size, 0, none⟩, 1, 1)]) (k := 1) (n := 2) (c := 2) h2 hz rfl (Nat.le_refl _) (by omega))
    (Lss.cons ((H0.out.on (Nat.le_refl _) BB.out)) (Lss.one ((ho.below hb2).mono (Nat.le_of_lt hz)))) (Nat.le_refl _) (by simp; omega)
    (by
      intro q hq p hp
      rcases List.mem_cons.1 hq with rfl | hq
      · have := (hT p hp).2.2.2; omega
      · obtain rfl : q = [(x, y, t, s)] := by simpa using hq
        obtain rfl : p = (x, y, t, s) := by simpa using hp
        show t.length ≤ 50000
        rw [T0.out.blen]; exact hm))
  rw [show ([l, [(x, y, t, s)]] : List (List Cp)).flatten = l ++ [(x, y, t, s)] by simp] at CT
  have hnz : ((n : Int) == 16) = false := by rw [beq_eq_false_iff_ne]; omega
  have hnz2 : ¬ (n : Int) = 16 := by omega
  clear hW h hB hT ht hf hC hl ho hb1 hs1 hb2 h2 hz T0
  go_enter Tryd.func22, Tryd.ntmps22
  go_upto_region 1 with fail
  rw [← HW.out]
  go_wp2_with fail
  refine CT.out.mono ?_
  rintro e w1 ⟨A1, n1, c1, rs1, rfl, h1⟩
  go_wp2
  go_ret2
  exact lsto_on (gbelow_on B0.out (Nat.le_refl _) BB.out) h1.out


set_option maxHeartbeats 6400000 in
set_option maxRecDepth 100000 in
theorem send_own {w : World} {B C n c m d : Nat} {A D : Option Addr} {l : List Cp} {x y : Int} {t : List Nat} {s : Bool} (h : Cls w B A n c l) (hB : B ≤ w.heap.size) (ht : Gs w C D m d 1 (cellsB t)) (hf : ∀ b ∈ t, b < 256) (hC : C ≤ w.heap.size) (h0 : echk l = 0) (hm : MayC (x, y, t, s)) (h16' : n < 16) :
    Calls Tryd.prog 7 #[.slice A n c, .agg #[.int .i64 x, .int .i64 y, .slice D m d, .bool s]] w (LstO w 0 (l ++ [(x, y, t, s)])) := by
  obtain ⟨W, hW⟩ : ∃ W, W = w.alloc (.cells #[.int .i64 x, .int .i64 y, .slice D m d, .bool s] 28) := ⟨_, rfl⟩
  have B0 := hid (show Below w.heap.size w W from hW ▸ (Below.refl _ w).alloc (Nat.le_refl _) _)
  have X0 := hid (show Cbx W w.heap.size x y D m d s from hW ▸ Cbx.new w x y D m d s)
  have HW := hid hW
  have H0 := hid (h.on hB B0.out)
  have T0 := hid (ht.on hC B0.out)
  have HF := hid hf
  have CK := hid (check_ok H0.out (Nat.le_refl _))
  clear hW h hB ht hC hf
  rw [h0] at CK
  have HMY := hid (echk_zero.1 h0).2
  have CM := hid (fun X (hX : Below W.heap.size W X) => bad_any (w := X) (x := x) (y := y) (s := s) (T0.out.below hX))
  rw [decide_eq_false (show ¬ ¬ MayC (x, y, t, s) from fun q => q hm)] at CM
  have hmm : m ≤ 50000 := by have h1 := hm.2.2.2; have h2 := T0.out.blen; simp only at h1; omega
  clear h0 hm
  go_enter Tryd.func7, Tryd.ntmps7
  go_upto_region 1 with fail
  rw [← HW.out]
  go_wp2_with fail
  refine CK.out.mono ?_
  rintro e w1 ⟨rfl, hb⟩
  have X1 := hid (X0.out.below hb.out X0.out.lt)
  have x0 := X1.out.c0
  have x1 := X1.out.c1
  have x2 := X1.out.c2
  have x3 := X1.out.c3
  go_wp2_with fail
  refine (CM.out _ hb.out).mono ?_
  rintro e w2 ⟨rfl, hb2⟩
  have X2 := hid (X1.out.below hb2.out X1.out.lt)
  have H2 := hid ((H0.out.on (Nat.le_refl _) hb.out).on (Nat.le_refl _) hb2.out)
  have T2 := hid ((T0.out.on (Nat.le_refl _) hb.out).on (Nat.le_refl _) hb2.out)
  have CP := hid (put_own (x := x) (y := y) (s := s) H2.out (Nat.le_refl _) h16' HMY.out T2.out HF.out (Nat.le_refl _) hmm)
  clear x0 x1 x2 x3 CM CK T0 H0
  have x0 := X2.out.c0
  have x1 := X2.out.c1
  have x2 := X2.out.c2
  have x3 := X2.out.c3
  go_wp2_with fail
  refine CP.out.mono ?_
  rintro e w3 ⟨A3, n3, c3, rs3, rfl, h3⟩
  go_wp2
  go_ret2
  exact lsto_on (gbelow_on (gbelow_on B0.out (Nat.le_refl _) hb.out) (Nat.le_refl _) hb2.out) h3.out

end Go.Proofs.YtbpijlghdpflgaaDoor.Eth
