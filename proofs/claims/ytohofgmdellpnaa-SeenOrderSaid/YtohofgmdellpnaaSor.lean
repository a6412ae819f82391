/- SeenOrder, walked. -/
import Derived.Test.YtohofgmdellpnaaSfs
namespace Go.Proofs.Ytohofgmdellpnaa.Seen
open Go.RowKit Go.Shelf Go.Lib

theorem ptE_zero {l : List Int} {x : Int} : ptE l x = 0 ↔ SMay l ∧ NOk x ∧ x ∉ l ∧ l.length < 4096 := by
  unfold ptE
  by_cases h : fiE l x = 0
  · have h2 := fiE_zero.1 h
    rw [if_neg (by simp [h])]
    by_cases h3 : x ∈ l
    · rw [if_pos h3]; exact ⟨fun e => (by cases e), fun e => absurd h3 e.2.2.1⟩
    · rw [if_neg h3]
      by_cases h4 : 4096 ≤ l.length
      · rw [if_pos h4]; exact ⟨fun e => (by cases e), fun e => absurd e.2.2.2 (by omega)⟩
      · rw [if_neg h4]; exact ⟨fun _ => ⟨h2.1, h2.2, h3, by omega⟩, fun _ => rfl⟩
  · rw [if_pos h]
    exact ⟨fun e => absurd e h, fun e => absurd (fiE_zero.2 ⟨e.1, e.2.1⟩) h⟩
theorem putN_pt {l : List Int} (h : SMay l) (x : Int) : putN l x = if ptE l x = 0 then ptL l x else l := by
  unfold putN
  by_cases h1 : ptE l x = 0
  · rw [if_pos h1, if_pos (ptE_zero.1 h1).2]
    unfold ptL
    rw [if_pos h1]
  · rw [if_neg h1, if_neg]
    exact fun h2 => h1 (ptE_zero.2 ⟨h, h2⟩)
theorem fold_take {l : List Int} {k : Nat} {x : Int} (h : l[k]? = some x) : (l.take (k + 1)).foldl putN [] = putN ((l.take k).foldl putN []) x := by
  rw [gi_take h, List.foldl_append]
  rfl
theorem fold_len (xs l : List Int) : (xs.foldl putN l).length ≤ l.length + xs.length := by
  induction xs generalizing l with
  | nil => exact Nat.le_refl _
  | cons x xs ih =>
    have := ih (putN l x)
    have := putN_len l x
    rw [List.foldl_cons, List.length_cons]
    omega
theorem fold_may (l : List Int) (h : l.length ≤ 100) : SMay (l.foldl putN []) := (foldN (xs := l) (l := []) (by simp; omega) ⟨by simp, by simp, List.Pairwise.nil⟩).1
theorem fold_mem (l : List Int) (h : l.length ≤ 100) (x : Int) : x ∈ l.foldl putN [] ↔ x ∈ l ∧ NOk x := by
  rw [(foldN (xs := l) (l := []) (by simp; omega) ⟨by simp, by simp, List.Pairwise.nil⟩).2 x]
  simp

/-- A list, as a value. -/
def LI (w : World) (v : Value) (l : List Int) : Prop := ∃ A n c, v = .slice A n c ∧ Gs w w.heap.size A n c 1 (cellsI l)
theorem LI.on {w w' : World} {v : Value} {l : List Int} (h : LI w v l) (hb : Below w.heap.size w w') : LI w' v l := by
  obtain ⟨A, n, c, e, h⟩ := h
  exact ⟨A, n, c, e, h.on (Nat.le_refl _) hb⟩
/-- Put, of a list as a value. -/
theorem put_li {w : World} {v : Value} {l : List Int} (h : LI w v l) (hm : SMay l) (x : Int) : Calls Try.prog 8 #[v, .int .i64 x] w fun e w' => ∃ v' q, e = .returned (.tuple #[v', .int .i64 q]) ∧ Hid (Below w.heap.size w w' ∧ LI w' (if q = 0 then v' else v) (putN l x)) := by
  obtain ⟨A, n, c, rfl, h⟩ := h
  refine (put_any h (Nat.le_refl _) x).mono ?_
  rintro e w1 ⟨v', rfl, hv⟩
  refine ⟨v', ptE l x, rfl, hid ⟨hv.out.2, ?_⟩⟩
  rw [putN_pt hm x]
  by_cases h1 : ptE l x = 0
  · rw [if_pos h1, if_pos h1]
    obtain ⟨A', n', c', rfl, _, h2, _⟩ := hv.out.1.form
    exact ⟨A', n', c', rfl, h2⟩
  · rw [if_neg h1, if_neg h1]
    exact ⟨A, n, c, rfl, h.on (Nat.le_refl _) hv.out.2⟩

set_option maxHeartbeats 6400000 in
set_option maxRecDepth 100000 in
theorem order_walk {w : World} {n c : Nat} {A : Option Addr} {l : List Int} (h : Gs w w.heap.size A n c 1 (cellsI l)) :
    Calls Try.prog 6 #[.slice A n c] w fun e w' => e = .returned (.bool true) ∧ Below w.heap.size w w' := by
  have H := hid h
  have hl := hid h.ilen
  have hcap := h.cap
  clear h
  go_enter Try.func6, Try.ntmps6
  go_wp2_with fail
  refine (alive_any w).mono ?_
  rintro e w1 ⟨rfl, B1⟩
  have H1 := hid (H.out.on (Nat.le_refl _) B1.out)
  by_cases hgr : n > 100
  · have hz : (n : Int) > 100 := by omega
    go_wp2
    go_ret
    exact ⟨rfl, B1.out⟩
  have hz : ¬ (n : Int) > 100 := by omega
  have hn : n ≤ 100 := by omega
  have hl100 : l.length ≤ 100 := by rw [hl.out]; exact hn
  have HM := hid (fun k => fold_may (l.take k) (by rw [List.length_take]; omega))
  have HR := hid (fun k => fold_may (l.reverse.take k) (by rw [List.length_take, List.length_reverse]; omega))
  clear hgr hl100
  go_upto_block 0 with fail
  go_cut [4, 5, 6] from 23 to 56 (fun s4 s5 _ wx => ∃ va vb : Value, va = s4 ∧ vb = s5 ∧ Hid (Below w1.heap.size w1 wx ∧ LI wx va (l.foldl putN []) ∧ LI wx vb (l.reverse.foldl putN [])))
  case first =>
    go_wp2_with fail
    go_loopg [4, 5, 6] n (fun gg s4 s5 s6 wr => ∃ (kk : Nat) (va vb : Value), kk ≤ n ∧ n - kk ≤ gg ∧ s6 = .int .i64 kk ∧ va = s4 ∧ vb = s5 ∧ Hid (Below w1.heap.size w1 wr ∧ LI wr va ((l.take kk).foldl putN []) ∧ LI wr vb ((l.reverse.take kk).foldl putN [])))
    case atStart => exact ⟨0, _, _, Nat.zero_le _, by omega, rfl, rfl, rfl, hid ⟨Below.refl _ _, ⟨_, _, _, rfl, Gs.nil' _ _ _⟩, ⟨_, _, _, rfl, Gs.nil' _ _ _⟩⟩⟩
    case round =>
      obtain ⟨kk, va, vb, hkk, hg, rfl, rfl, rfl, HI⟩ := hrel
      by_cases hlt : kk < n
      · have hltz : (kk : Int) < (n : Int) := by omega
        obtain ⟨x, hx⟩ := H1.out.iget hlt
        obtain ⟨y, hy⟩ := H1.out.iget (show n - 1 - kk < n by omega)
        have hy2 : l.reverse[kk]? = some y := by
          rw [List.getElem?_reverse (by rw [hl.out]; exact hlt), hl.out]
          exact hy
        have FA := hid (fold_take hx)
        have FB := hid (fold_take hy2)
        obtain ⟨b, off, rfl, hbB, hc⟩ := H1.out.iat (by omega)
        have C1 := hid (fun (X : World) (hb : Below w1.heap.size w1 X) => (hb.cell (p := ⟨b, off + kk, none⟩) hbB).trans (hc kk x hx))
        have C2 := hid (fun (X : World) (hb : Below w1.heap.size w1 X) => (hb.cell (p := ⟨b, off + (n - 1 - kk), none⟩) hbB).trans (hc (n - 1 - kk) y hy))
        have hw : (n : Int) - 1 - (kk : Int) = ((n - 1 - kk : Nat) : Int) := by omega
        have hin : n - 1 - kk < n := by omega
        have hinz : ((n - 1 - kk : Nat) : Int) < (n : Int) := by omega
        obtain ⟨kr, hkr⟩ : ∃ kr, kr = n - 1 - kk := ⟨_, rfl⟩
        rw [← hkr] at C2 hw hin hinz
        have c1 := C1.out _ HI.out.1
        clear hx hy hy2 hc hkr
        go_wp2_with fail
        refine (put_li HI.out.2.1 (HM.out kk) x).mono ?_
        rintro e w2 ⟨v1, q1, rfl, h1⟩
        have b2 := hid (gbelow_on HI.out.1 (Nat.le_refl _) h1.out.1)
        have LB := hid (HI.out.2.2.on h1.out.1)
        have c2 := C2.out _ b2.out
        have key : (q1 = 0 ∧ LI w2 v1 ((l.take (kk + 1)).foldl putN [])) ∨ (¬ q1 = 0 ∧ LI w2 va ((l.take (kk + 1)).foldl putN [])) := by
          have := h1.out.2
          rw [← FA.out] at this
          by_cases z : q1 = 0
          · rw [if_pos z] at this; exact .inl ⟨z, this⟩
          · rw [if_neg z] at this; exact .inr ⟨z, this⟩
        clear h1 c1
        rcases key with ⟨z1, LA⟩ | ⟨z1, LA⟩
        all_goals
          replace LA := hid LA
          go_wp2_with fail
          refine (put_li LB.out (HR.out kk) y).mono ?_
          rintro e w3 ⟨v2, q2, rfl, h2⟩
          have b3 := hid (gbelow_on b2.out (Nat.le_refl _) h2.out.1)
          have LA3 := hid (LA.out.on h2.out.1)
          have key : (q2 = 0 ∧ LI w3 v2 ((l.reverse.take (kk + 1)).foldl putN [])) ∨ (¬ q2 = 0 ∧ LI w3 vb ((l.reverse.take (kk + 1)).foldl putN [])) := by
            have := h2.out.2
            rw [← FB.out] at this
            by_cases z : q2 = 0
            · rw [if_pos z] at this; exact .inl ⟨z, this⟩
            · rw [if_neg z] at this; exact .inr ⟨z, this⟩
          clear h2
          rcases key with ⟨z2, LB3⟩ | ⟨z2, LB3⟩
          all_goals
            replace LB3 := hid LB3
            go_wp2
            go_roundg (n - (kk + 1))
            case measure => omega
            case rel => exact ⟨kk + 1, _, _, by omega, by omega, by go_num, rfl, rfl, hid ⟨b3.out, LA3.out, LB3.out⟩⟩
      · have hltz : ¬ (kk : Int) < (n : Int) := by omega
        obtain rfl : kk = n := by omega
        go_wp2
        go_meet
        refine ⟨_, _, rfl, rfl, hid ?_⟩
        have := HI.out
        rw [List.take_of_length_le (by rw [hl.out]; exact Nat.le_refl _), List.take_of_length_le (by rw [List.length_reverse, hl.out]; exact Nat.le_refl _)] at this
        exact this
  case rest =>
    obtain ⟨va, vb, rfl, rfl, HI⟩ := hcut
    have hrev : l.reverse.foldl putN [] = l.foldl putN [] := (foldN_rev (xs := l) (by rw [hl.out]; omega)).symm
    rw [hrev] at HI
    have hmem := fun x => fold_mem l (by rw [hl.out]; exact hn) x
    have hmay := fold_may l (by rw [hl.out]; exact hn)
    obtain ⟨a, ha⟩ : ∃ a, a = l.foldl putN [] := ⟨_, rfl⟩
    rw [← ha] at HI hmem hmay
    obtain ⟨Aa, na, ca, rfl, Ha⟩ := HI.out.2.1
    obtain ⟨Ab, nb, cb, rfl, Hb⟩ := HI.out.2.2
    have HA := hid Ha
    have HB := hid Hb
    have B2 := hid HI.out.1
    have HMM := hid hmem
    have HMY := hid hmay
    clear HI hrev hmem hmay ha Ha Hb HM HR
    go_wp2_with fail
    go_loopg [11] n (fun gg s11 wr => ∃ kk : Nat, kk ≤ n ∧ n - kk ≤ gg ∧ s11 = .int .i64 kk ∧ Hid (Below wc.heap.size wc wr))
    case atStart => exact ⟨0, Nat.zero_le _, by omega, rfl, hid (Below.refl _ _)⟩
    case round =>
      obtain ⟨kk, hkk, hg, rfl, BW⟩ := hrel
      have b3 := hid (gbelow_on B2.out (Nat.le_refl _) BW.out)
      by_cases hlt : kk < n
      · have hltz : (kk : Int) < (n : Int) := by omega
        obtain ⟨x, hx⟩ := H1.out.iget hlt
        obtain ⟨b, off, rfl, hbB, hc⟩ := H1.out.iat (by omega)
        have C1 := hid (fun (X : World) (hb : Below w1.heap.size w1 X) => (hb.cell (p := ⟨b, off + kk, none⟩) hbB).trans (hc kk x hx))
        have hxm := hid (HMM.out x)
        have hxl := hid (List.mem_of_getElem? hx)
        have CH := hid (has_any (HA.out.on (Nat.le_refl _) BW.out) (Nat.le_refl _) x)
        have c1 := C1.out _ b3.out
        clear hx hc
        by_cases hok : NOk x
        · have hf : fiE a x = 0 := fiE_zero.2 ⟨HMY.out, hok⟩
          have hh : haA a x = true := by unfold haA; exact decide_eq_true ⟨hf, hxm.out.2 ⟨hxl.out, hok⟩⟩
          rw [hf, hh] at CH
          have z1 : x ≥ 0 := hok.1
          have z2 : x ≤ 1048575 := hok.2
          clear hf hh hok
          go_wp2_with fail
          refine CH.out.mono ?_
          rintro e w4 ⟨rfl, h4⟩
          have b4 := hid (gbelow_on b3.out (Nat.le_refl _) h4.out)
          have bw4 := hid (gbelow_on BW.out (Nat.le_refl _) h4.out)
          clear c1
          have c1 := C1.out _ b4.out
          go_wp2
          go_roundg (n - (kk + 1))
          case measure => omega
          case rel => exact ⟨kk + 1, by omega, by omega, by go_num, bw4⟩
        · have hh : haA a x = false := by unfold haA; exact decide_eq_false (fun h => hok (fiE_zero.1 h.1).2)
          rw [hh] at CH
          generalize fiE a x = q at CH
          clear hh
          by_cases z1 : x ≥ 0
          · have z2 : ¬ x ≤ 1048575 := fun h => hok ⟨z1, h⟩
            clear hok
            go_wp2_with fail
            refine CH.out.mono ?_
            rintro e w4 ⟨rfl, h4⟩
            have b4 := hid (gbelow_on b3.out (Nat.le_refl _) h4.out)
            have bw4 := hid (gbelow_on BW.out (Nat.le_refl _) h4.out)
            clear c1
            have c1 := C1.out _ b4.out
            go_wp2
            go_roundg (n - (kk + 1))
            case measure => omega
            case rel => exact ⟨kk + 1, by omega, by omega, by go_num, bw4⟩
          · clear hok
            go_wp2_with fail
            refine CH.out.mono ?_
            rintro e w4 ⟨rfl, h4⟩
            have b4 := hid (gbelow_on b3.out (Nat.le_refl _) h4.out)
            have bw4 := hid (gbelow_on BW.out (Nat.le_refl _) h4.out)
            clear c1
            have c1 := C1.out _ b4.out
            go_wp2
            go_roundg (n - (kk + 1))
            case measure => omega
            case rel => exact ⟨kk + 1, by omega, by omega, by go_num, bw4⟩
      · have hltz : ¬ (kk : Int) < (n : Int) := by omega
        obtain rfl : kk = n := by omega
        have CS := hid (same_any (HA.out.on (Nat.le_refl _) BW.out) (HB.out.on (Nat.le_refl _) BW.out) (Nat.le_refl _) (Nat.le_refl _))
        rw [decide_eq_true rfl] at CS
        have CC := hid (fun X (hb : Below wr.heap.size wr X) => check_any ((HA.out.on (Nat.le_refl _) BW.out).on (Nat.le_refl _) hb))
        rw [schk_zero.2 HMY.out] at CC
        go_wp2_with fail
        refine CS.out.mono ?_
        rintro e w4 ⟨rfl, h4⟩
        go_wp2_with fail
        refine (CC.out w4 h4.out).mono ?_
        rintro e w5 ⟨rfl, rfl⟩
        go_wp2
        go_ret
        exact ⟨rfl, gbelow_on (gbelow_on B1.out (Nat.le_refl _) b3.out) (Nat.le_refl _) h4.out⟩
end Go.Proofs.Ytohofgmdellpnaa.Seen
