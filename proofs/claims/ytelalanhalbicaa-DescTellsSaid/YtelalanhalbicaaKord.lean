/- DescOrder, walked. -/
import Derived.Test.YtelalanhalbicaaKcnt
namespace Go.Proofs.Ytelalanhalbicaa
open Go.RowKit Go.Shelf Go.Lib

theorem mem_nb {l : List De} {k : Nat} {d : De} (hl : l.any bad = false) (h : (srt l)[k]? = some d) : bad d = false := by
  have := List.any_eq_false.1 hl d (mem_srt.1 (List.mem_of_getElem? h))
  exact Bool.eq_false_iff.2 this
theorem frE_nb {a b : De} (ha : bad a = false) (hb : bad b = false) : frE a b = 0 := by unfold frE; rw [ha, hb]; rfl
theorem frB_nb {a b : De} (ha : bad a = false) (hb : bad b = false) : frB a b = fr a b := by unfold frB; rw [ha, hb]; rfl

set_option maxHeartbeats 6400000 in
set_option maxRecDepth 100000 in
theorem ord_walk {w : World} {n c : Nat} {A : Option Addr} {l : List De} (h : Ds w w.heap.size A n c l) :
    Calls Try.prog 5 #[.slice A n c] w fun e w' => e = .returned (.bool true) ∧ Below w.heap.size w w' := by
  have mixed : Try.prog.follows .mixedOrders = true := by kernel_rfl
  have CA := hid (alive_any w)
  have H := hid h
  have hm := h.max
  have hcap := h.cap
  have HL := hid h.len
  clear h
  have CO := hid (fun X (hb : Below w.heap.size w X) => order_any (H.out.below hb) hb.size)
  have CK := hid (fun X (hb : Below w.heap.size w X) => check_any (H.out.below hb) hb.size)
  obtain ⟨r, hr⟩ : ∃ r, r = orr l := ⟨_, rfl⟩
  obtain ⟨x, hx⟩ : ∃ x, x = chk l := ⟨_, rfl⟩
  rw [← hr, ← hx] at CO
  rw [← hx] at CK
  by_cases h0 : x = 0
  case neg =>
    obtain rfl : r = [] := hr.trans (if_neg (fun e => h0 (hx.trans e)))
    clear hr hx
    go_enter Try.func5, Try.ntmps5
    go_wp2_with fail
    refine CA.out.mono ?_
    rintro e w1 ⟨rfl, hb1⟩
    go_wp2_with fail
    refine (CO.out _ hb1.out).mono ?_
    rintro e w2 ⟨v, rfl, hv⟩
    have B2 := hid (hb1.out.trans (hv.out.2.mono hb1.out.size))
    obtain ⟨A2, c2, rfl, _, _, _⟩ := hv.out.1.form
    clear hv
    go_wp2_with fail
    refine (CK.out _ B2.out).mono ?_
    rintro e w3 ⟨rfl, hb3⟩
    go_wp2
    go_ret
    exact ⟨rfl, B2.out.trans (hb3.out.mono B2.out.size)⟩
  subst h0
  obtain rfl : r = srt l := hr.trans (if_pos hx.symm)
  have HZ := hid (chk_zero.1 hx.symm)
  have HO := hid (srt_ord l)
  have HP := hid (srt_perm l)
  have HN := hid (srt_length l)
  have HB := hid (fun (k : Nat) (d : De) (hk : (srt l)[k]? = some d) => mem_nb HZ.out.2 hk)
  clear hr hx CK
  generalize srt l = r at CO HO HP HN HB
  obtain rfl : n = r.length := by rw [HN.out, HL.out]
  obtain ⟨n, hn⟩ : ∃ n, n = r.length := ⟨_, rfl⟩
  rw [← hn] at H hm hcap CO HL ⊢
  have HNR := hid hn
  clear hn
  go_enter Try.func5, Try.ntmps5
  go_wp2_with fail
  refine CA.out.mono ?_
  rintro e w1 ⟨rfl, hb1⟩
  go_wp2_with fail
  refine (CO.out _ hb1.out).mono ?_
  rintro e w2 ⟨v, rfl, hv⟩
  have B2 := hid (hb1.out.trans (hv.out.2.mono hb1.out.size))
  obtain ⟨A2, c2, rfl, hD2, _, _⟩ := hv.out.1.form
  rw [← HNR.out] at hD2 ⊢
  have hcap2 := hD2.cap
  have HD := hid hD2
  have H2 := hid ((H.out.below B2.out).mono B2.out.size)
  clear hv hD2
  go_wp2
  go_loopg [6, 7, 8] n (fun gg s6 _ _ wr => ∃ kk : Nat, kk ≤ n ∧ n - kk ≤ gg ∧ s6 = .int .i64 kk ∧ Hid (Below w2.heap.size w2 wr))
  case atStart => exact ⟨0, Nat.zero_le _, by omega, rfl, hid (Below.refl _ w2)⟩
  case round =>
    obtain ⟨kk, hkk, hg, rfl, BW⟩ := hrel
    by_cases hlt : kk < n
    case neg =>
      have hltz : ¬ (kk : Int) < (n : Int) := by omega
      obtain rfl : kk = n := by omega
      go_wp2
      go_ret
      exact ⟨rfl, B2.out.trans (BW.out.mono B2.out.size)⟩
    have hltz : (kk : Int) < (n : Int) := by omega
    obtain ⟨d, hd⟩ := HD.out.get hlt
    obtain ⟨b, off, rfl, hbB, hc⟩ := (HD.out.below BW.out).at_ (by omega)
    have Hd := hid hd
    have hcd := hc kk d hd
    have HCC := hid hc
    clear hc hd
    have CX := hid (fun X (hb : Below wr.heap.size wr X) => count_any d (((HD.out.below BW.out).mono BW.out.size).below hb) hb.size)
    have CL := hid (fun X (hb : Below wr.heap.size wr X) => count_any d (((H2.out.below BW.out).mono BW.out.size).below hb) hb.size)
    rw [cnt_perm HP.out d] at CX
    generalize cnt d l = q at CX CL
    have hbw : b < wr.heap.size := Nat.lt_of_lt_of_le hbB BW.out.size
    have hd1 := hcd.1
    have hd2 := hcd.2
    clear hcd
    have Hdd := Hd
    obtain ⟨d1, d2⟩ := d
    change wr.cell? ⟨b, off + kk * 2, none⟩ = some (.int .i64 d1) at hd1
    change wr.cell? ⟨b, off + kk * 2 + 1, none⟩ = some (.int .i64 d2) at hd2
    change Hid (∀ X, Below wr.heap.size wr X → Calls Try.prog _ #[_, .agg #[.int .i64 d1, .int .i64 d2]] X _) at CX
    change Hid (∀ X, Below wr.heap.size wr X → Calls Try.prog _ #[_, .agg #[.int .i64 d1, .int .i64 d2]] X _) at CL
    have CF : Hid (∀ X, Below wr.heap.size wr X → X.cell? ⟨b, off + kk * 2, none⟩ = some (.int .i64 d1) ∧ X.cell? ⟨b, off + kk * 2 + 1, none⟩ = some (.int .i64 d2)) := hid fun X hb =>
      ⟨(hb.cell (p := ⟨b, off + kk * 2, none⟩) hbw).trans hd1, (hb.cell (p := ⟨b, off + kk * 2 + 1, none⟩) hbw).trans hd2⟩
    have HBz : Hid (Below wr.heap.size wr wr.drew) := hid (Below.refl wr.heap.size wr).drew
    have hoff : ¬ ((q : Int) != (q : Int)) = true := by simp
    clear hd1 hd2
    go_wp2_with fail
    go_region_held3 (fun X => X.cell? ⟨b, off + kk * 2, none⟩ = some (.int .i64 d1) ∧ X.cell? ⟨b, off + kk * 2 + 1, none⟩ = some (.int .i64 d2))
      (exact CF.out _ HBz.out)
      (first
      | (go_at_call 19
         (first | with_reducible refine (CX.out _ HBz.out).mono ?_ | with_reducible refine (CL.out _ HBz.out).mono ?_)
         rintro e' w' ⟨rfl, hb⟩
         have HBz := hid (HBz.out.trans (hb.out.mono HBz.out.size))))
    all_goals
      clear CX CL hoff
      by_cases hk0 : 0 < kk
      case neg =>
        have hkz : ¬ (0 : Int) < (kk : Int) := by omega
        go_wp2
        go_roundg (n - (kk + 1))
        case measure => omega
        case rel => exact ⟨kk + 1, by omega, by omega, by go_num, hid (BW.out.trans (HBz.out.mono BW.out.size))⟩
      have hkz : (0 : Int) < (kk : Int) := by omega
      obtain ⟨jj, hjj⟩ : ∃ jj, kk = jj + 1 := ⟨kk - 1, by omega⟩
      have hjn : jj < n := by omega
      obtain ⟨e, he⟩ := HD.out.get hjn
      have hs1 : IntKind.i64.wrap ((kk : Int) - 1) = (jj : Int) := by rw [IntKind.wrap_i64]; omega
      have hjz : (jj : Int) < (n : Int) := by omega
      have hce := HCC.out jj e he
      have HE := hid (ord_pair HO.out he (hjj ▸ Hd.out))
      have CR := hid (fun X : World => dFresher_any e (d1, d2) X)
      rw [frE_nb (HB.out _ _ he) (HB.out _ _ Hd.out), frB_nb (HB.out _ _ he) (HB.out _ _ Hd.out)] at CR
      have HJ := hid hjj
      clear he hjj hk0
      obtain ⟨e1, e2⟩ := e
      have he1 := hce.1
      have he2 := hce.2
      change wr.cell? ⟨b, off + jj * 2, none⟩ = some (.int .i64 e1) at he1
      change wr.cell? ⟨b, off + jj * 2 + 1, none⟩ = some (.int .i64 e2) at he2
      change Hid (∀ X, Calls Try.prog _ #[.agg #[.int .i64 e1, .int .i64 e2], .agg #[.int .i64 d1, .int .i64 d2]] X _) at CR
      have CG : Hid (∀ X, Below wr.heap.size wr X → X.cell? ⟨b, off + jj * 2, none⟩ = some (.int .i64 e1) ∧ X.cell? ⟨b, off + jj * 2 + 1, none⟩ = some (.int .i64 e2) ∧ X.cell? ⟨b, off + kk * 2, none⟩ = some (.int .i64 d1) ∧ X.cell? ⟨b, off + kk * 2 + 1, none⟩ = some (.int .i64 d2)) := hid fun X hb =>
        ⟨(hb.cell (p := ⟨b, off + jj * 2, none⟩) hbw).trans he1, (hb.cell (p := ⟨b, off + jj * 2 + 1, none⟩) hbw).trans he2, CF.out X hb⟩
      clear hce he1 he2
      have HBz := hid HBz.out.drew
      have hgd := grdD
      rcases HE.out with hf | hf
      · rw [hf] at CR
        clear hf
        go_wp2_with fail
        go_region_held3 (fun X => X.cell? ⟨b, off + jj * 2, none⟩ = some (.int .i64 e1) ∧ X.cell? ⟨b, off + jj * 2 + 1, none⟩ = some (.int .i64 e2) ∧ X.cell? ⟨b, off + kk * 2, none⟩ = some (.int .i64 d1) ∧ X.cell? ⟨b, off + kk * 2 + 1, none⟩ = some (.int .i64 d2))
          (exact CG.out _ HBz.out)
          (first
          | (go_at_call 8
             with_reducible refine (CR.out _).mono ?_
             rintro e' w' ⟨rfl, hb⟩
             have HBz := hid (HBz.out.trans (hb.out.mono HBz.out.size))))
        all_goals
          go_wp2_with fail
          go_quiet (fail)
          go_wp2
          go_roundg (n - (kk + 1))
          case measure => omega
          case rel => exact ⟨kk + 1, by omega, by omega, by go_num, hid (below_drewN (BW.out.trans (HBz.out.mono BW.out.size)) _)⟩
      · rw [hf, fr_irrefl] at CR
        injection hf with hf1 hf2
        subst hf1 hf2
        have hq : ∀ W, Sem.run Try.prog (binOp .neq 26 (.agg #[.int .i64 e1, .int .i64 e2]) (.agg #[.int .i64 e1, .int .i64 e2])) W = .ok (.bool false) W := fun W => by rw [neqD, decide_eq_true rfl]; rfl
        go_wp2_with fail
        go_region_held3 (fun X => X.cell? ⟨b, off + jj * 2, none⟩ = some (.int .i64 e1) ∧ X.cell? ⟨b, off + jj * 2 + 1, none⟩ = some (.int .i64 e2) ∧ X.cell? ⟨b, off + kk * 2, none⟩ = some (.int .i64 e1) ∧ X.cell? ⟨b, off + kk * 2 + 1, none⟩ = some (.int .i64 e2))
          (exact CG.out _ HBz.out)
          (first
          | (go_at_call 8
             with_reducible refine (CR.out _).mono ?_
             rintro e' w' ⟨rfl, hb⟩
             have HBz := hid (HBz.out.trans (hb.out.mono HBz.out.size))))
        all_goals
          obtain ⟨g1, g2, g3, g4⟩ := CG.out _ HBz.out
          go_wp2_with fail
          go_quiet_o (fail)
          go_wp2
          go_roundg (n - (kk + 1))
          case measure => omega
          case rel => exact ⟨kk + 1, by omega, by omega, by go_num, hid (below_drewN (BW.out.trans (HBz.out.mono BW.out.size)) _)⟩
end Go.Proofs.Ytelalanhalbicaa
