/- TimerSets, walked. -/
import Derived.Test.YtgcmljnjfghagaaTal
namespace Go.Proofs.Ytgcmljnjfghagaa.Tm
open Go.RowKit Go.Shelf Go.Lib
set_option maxRecDepth 100000

/-- la is what came of the timers m, set one by one. -/
structure Good (la m : List De) : Prop where
  st : St la
  mem : ∀ y, y ∈ la ↔ y ∈ m ∧ may y = true
  len : la.length ≤ m.length
theorem Good.nil : Good [] [] := ⟨List.Pairwise.nil, by simp, Nat.le_refl _⟩
theorem Good.ok {la m : List De} {x : De} (h : Good la m) (k : may x = true) (n : ¬ x ∈ la) : Good (wi x la) (m ++ [x]) :=
  ⟨wi_st h.st n, fun y => by
    rw [(wi_perm x la).mem_iff, List.mem_cons, h.mem, List.mem_append, List.mem_singleton]
    constructor
    · rintro (rfl | h2)
      · exact ⟨.inr rfl, k⟩
      · exact ⟨.inl h2.1, h2.2⟩
    · rintro ⟨h2 | h2, h3⟩
      · exact .inr ⟨h2, h3⟩
      · exact .inl h2, by rw [wi_length, List.length_append, List.length_singleton]; have := h.len; omega⟩
theorem Good.skip {la m : List De} {x : De} (h : Good la m) (k : may x = false ∨ x ∈ la) : Good la (m ++ [x]) :=
  ⟨h.st, fun y => by
    rw [h.mem, List.mem_append, List.mem_singleton]
    constructor
    · rintro ⟨h1, h2⟩; exact ⟨.inl h1, h2⟩
    · rintro ⟨h1 | h1, h2⟩
      · exact ⟨h1, h2⟩
      · subst h1
        rcases k with k | k
        · rw [k] at h2; cases h2
        · exact (h.mem y).1 k, by rw [List.length_append]; have := h.len; omega⟩
theorem Good.ck {la m : List De} (h : Good la m) (k : m.length ≤ 60) : chk la = 0 := chk_ok (by have := h.len; omega) ⟨fun x hx => ((h.mem x).1 hx).2, h.st⟩
theorem Good.uniq {la lb m r : List De} (h : Good la m) (k : Good lb r) (hm : ∀ y, y ∈ m ↔ y ∈ r) : la = lb := st_unique h.st k.st (fun x => by rw [h.mem, k.mem, hm])
theorem rev_get {l : List De} {i n : Nat} {x : De} (hn : l.length = n) (hi : i < n) (h : l[n - 1 - i]? = some x) : l.reverse[i]? = some x := by
  rw [List.getElem?_reverse (by omega), hn]
  exact h
/-- What a Set leaves, of three kinds. -/
theorem set_kinds {la m : List De} (h : Good la m) (k : m.length ≤ 60) (x : De) : (setE la x = 0 ∧ setL la x = wi x la ∧ Good (wi x la) (m ++ [x])) ∨ ((setE la x = 8 ∨ setE la x = 12) ∧ setL la x = [] ∧ Good la (m ++ [x])) := by
  have hc := h.ck k
  cases hm : may x with
  | false => obtain ⟨e1, e2⟩ := set_may hc hm; exact .inr ⟨.inl e1, e2, h.skip (.inl hm)⟩
  | true =>
    by_cases hi : x ∈ la
    · obtain ⟨e1, e2⟩ := set_in hc hm hi; exact .inr ⟨.inr e1, e2, h.skip (.inr hi)⟩
    · obtain ⟨e1, e2⟩ := set_ok hc hm hi (by have := h.len; omega)
      exact .inl ⟨e1, e2, h.ok hm hi⟩

set_option maxHeartbeats 25600000 in
theorem tsets_walk {w : World} {n c : Nat} {A : Option Addr} {l : List De} (h : Ds w w.heap.size A n c l) :
    Calls Try.prog 6 #[.slice A n c] w fun e w' => e = .returned (.bool true) ∧ Below w.heap.size w w' := by
  have HD := hid h
  have HL := hid h.len
  have hm := h.max
  have hcap := h.cap
  clear h
  have C1 := hid (alive_any w)
  unfold Tel at C1
  by_cases hn6 : 60 < n
  case pos =>
    have hz : (n : Int) > 60 := by omega
    go_enter Try.func6, Try.ntmps6
    go_wp2_with (first | (go_at_call 14; with_reducible refine C1.out.mono ?_; rintro e W ⟨rfl, BW0⟩) | fail)
    go_ret
    exact ⟨rfl, BW0.out⟩
  have hz : ¬ (n : Int) > 60 := by omega
  have hn60 : n ≤ 60 := by omega
  clear hn6
  have mixed : Try.prog.follows .mixedOrders = true := by kernel_rfl
  go_enter Try.func6, Try.ntmps6
  go_wp2_with (first | (go_at_call 14; with_reducible refine C1.out.mono ?_; rintro e W ⟨rfl, BW0⟩) | fail)
  have HS0 := hid BW0.out.size
  go_loopg [4, 5, 6, 7, 8, 9, 10, 11] n (fun gg s4 s5 s6 s7 _ _ _ _ wr => ∃ (k : Nat) (Aa : Option Addr) (na ca : Nat) (Ab : Option Addr) (nb cb : Nat) (As : Option Addr) (ns cs : Nat) (la lb ls : List De), s4 = .slice Aa na ca ∧ s5 = .slice Ab nb cb ∧ s6 = .slice As ns cs ∧ s7 = .int .i64 k ∧ k ≤ n ∧ n - k ≤ gg ∧ Hid (Below w.heap.size w wr) ∧ Hid (Od wr w.heap.size (.slice Aa na ca) la ∧ Od wr w.heap.size (.slice Ab nb cb) lb ∧ Od wr w.heap.size (.slice As ns cs) ls ∧ Far2 (.slice As ns cs) (.slice Aa na ca) ∧ Far2 (.slice As ns cs) (.slice Ab nb cb)) ∧ Hid (Good la (l.take k) ∧ Good lb (l.reverse.take k) ∧ ls.Perm la))
  case atStart => exact ⟨0, none, 0, 0, none, 0, 0, none, 0, 0, [], [], [], rfl, rfl, rfl, rfl, Nat.zero_le _, by omega, BW0, hid ⟨Od.nil _ _, Od.nil _ _, Od.nil _ _, fun b hb => by simp [Value.ownBlock] at hb, fun b hb => by simp [Value.ownBlock] at hb⟩, hid ⟨Good.nil, Good.nil, List.Perm.refl _⟩⟩
  case round =>
    obtain ⟨k, Aa, na, ca, Ab, nb, cb, As, ns, cs, la, lb, ls, rfl, rfl, rfl, rfl, hk, hg, BW, HO, HP⟩ := hrel
    by_cases hkn : k < n
    case pos =>
      have hlt : (k : Int) < (n : Int) := by omega
      obtain ⟨q, hq⟩ : ∃ q, q = n - 1 - k := ⟨_, rfl⟩
      have hqz : (n : Int) - 1 - (k : Int) = (q : Int) := by omega
      have hwn : IntKind.i64.wrap ((n : Int) - 1) = (n : Int) - 1 := by rw [IntKind.wrap_i64]; omega
      have hwq : IntKind.i64.wrap (q : Int) = (q : Int) := by rw [IntKind.wrap_i64]; omega
      have hqn : (q : Int) < (n : Int) := by omega
      obtain ⟨x, hx⟩ := HD.out.get hkn
      obtain ⟨y, hy⟩ := HD.out.get (show q < n by omega)
      have HXK := hid hx
      have HYK := hid (rev_get HL.out hkn (by rw [← hq]; exact hy))
      obtain ⟨b, off, rfl, hb, hcc⟩ := (HD.out.below BW.out).at_ (by omega)
      have hbk := hid hb
      obtain ⟨c1, c2⟩ := hcc k x hx
      obtain ⟨c3, c4⟩ := hcc q y hy
      obtain ⟨x1, x2⟩ := x
      obtain ⟨y1, y2⟩ := y
      change wr.cell? ⟨b, off + k * 2, none⟩ = some (.int .i64 x1) at c1
      change wr.cell? ⟨b, off + k * 2 + 1, none⟩ = some (.int .i64 x2) at c2
      change wr.cell? ⟨b, off + q * 2, none⟩ = some (.int .i64 y1) at c3
      change wr.cell? ⟨b, off + q * 2 + 1, none⟩ = some (.int .i64 y2) at c4
      have CX : Hid (∀ X, Below w.heap.size wr X → X.cell? ⟨b, off + k * 2, none⟩ = some (.int .i64 x1) ∧ X.cell? ⟨b, off + k * 2 + 1, none⟩ = some (.int .i64 x2) ∧ X.cell? ⟨b, off + q * 2, none⟩ = some (.int .i64 y1) ∧ X.cell? ⟨b, off + q * 2 + 1, none⟩ = some (.int .i64 y2)) := hid fun X h => ⟨(h.cell (p := ⟨b, off + k * 2, none⟩) hbk.out).trans c1, (h.cell (p := ⟨b, off + k * 2 + 1, none⟩) hbk.out).trans c2, (h.cell (p := ⟨b, off + q * 2, none⟩) hbk.out).trans c3, (h.cell (p := ⟨b, off + q * 2 + 1, none⟩) hbk.out).trans c4⟩
      have CA : Calls Try.prog 9 #[.slice Aa na ca, .agg #[.int .i64 x1, .int .i64 x2]] wr (LstE wr (setL la (x1, x2)) (setE la (x1, x2))) := pset_any (x1, x2) HO.out.1.ds (Nat.le_refl _)
      have CB : Hid (∀ X, Od X w.heap.size (.slice Ab nb cb) lb → Calls Try.prog 9 #[.slice Ab nb cb, .agg #[.int .i64 y1, .int .i64 y2]] X (LstE X (setL lb (y1, y2)) (setE lb (y1, y2)))) := hid fun X h => pset_any (y1, y2) h.ds (Nat.le_refl _)
      have KA := set_kinds HP.out.1 (by rw [List.length_take]; omega) (x1, x2)
      have KB := set_kinds HP.out.2.1 (by rw [List.length_take]; omega) (y1, y2)
      rw [← take_snoc HXK.out] at KA
      rw [← take_snoc HYK.out] at KB
      generalize setE la (x1, x2) = ea at CA KA
      generalize setL la (x1, x2) = sa at CA KA
      generalize setE lb (y1, y2) = eb at CB KB
      generalize setL lb (y1, y2) = sb at CB KB
      unfold LstE at CA CB
      have hle : Hid (w.heap.size ≤ wr.heap.size) := hid BW.out.size
      have hsl : Hid (ls.length < 100000) := hid (by
        have h1 := HP.out.2.2.length_eq
        have h2 := HP.out.1.len
        rw [List.length_take] at h2
        omega)
      clear hcc hx hy hb hq
      go_wp2_with fail
      refine CA.mono ?_
      rintro e w2 ⟨va, rfl, H2⟩
      obtain ⟨A2, n2, c2', rfl, _, _⟩ := od_letter H2.out.1
      have b2 := hid H2.out.2
      have OB2 := hid (HO.out.2.1.below b2.out)
      have OS2 := hid (HO.out.2.2.1.below b2.out)
      have OA2 := hid (HO.out.1.below b2.out)
      have NA2 := hid H2.out.1
      have BW2 := hid (BW.out.trans (b2.out.mono hle.out))
      have bl2 := hid (b2.out.mono hle.out)
      have FA2 : Hid (Far2 (.slice As ns cs) (.slice A2 n2 c2')) := hid fun b hb hb2 => by
        have h1 := (own_lt HO.out.2.2.1 b hb).2
        have h2 := (own_lt NA2.out b hb2).1
        omega
      obtain ⟨d1, d2, d3, d4⟩ := CX.out w2 bl2.out
      have FAB : Hid (Far2 (.slice As ns cs) (.slice Aa na ca) ∧ Far2 (.slice As ns cs) (.slice Ab nb cb)) := hid ⟨HO.out.2.2.2.1, HO.out.2.2.2.2⟩
      have HPm := hid HP.out.2.2
      clear H2 c1 c2 c3 c4 CA C1 HO HP
      rcases KA with ⟨rfl, rfl, GA⟩ | ⟨hea, rfl, GA⟩
      case inl =>
        have HGA := hid GA
        clear GA
        go_wp2_with (first
          | (at_builtin; refine list_app1 (d1 := x1) (d2 := x2) rfl _ _ rfl rfl rfl OS2.out hsl.out BW2.out.size ?_; intro A3 n3 c3 w3 H3
             have bl3 := hid (bl2.out.trans (spoil_below H3.out.grown OS2.out (Nat.le_refl _) BW2.out.size))
             obtain ⟨e1, e2, e3, e4⟩ := CX.out w3 bl3.out)
          | fail)
        have K3 := hid (FA2.out.kept H3.out NA2.out)
        have KB3 := hid (FAB.out.2.kept H3.out OB2.out)
        have BW3 := hid (H3.out.bel OS2.out BW2.out BW2.out.size)
        refine (CB.out w3 KB3.out.1).mono ?_
        rintro e w4 ⟨vb, rfl, H4⟩
        obtain ⟨A4, n4, c4', rfl, _, _⟩ := od_letter H4.out.1
        have b4 := hid H4.out.2
        have OA4 := hid ((K3.out.1.below b4.out).mono (C := w.heap.size) BW.out.size)
        have OS4 := hid (H3.out.own.below b4.out)
        have OB4 := hid (KB3.out.1.below b4.out)
        have NB4 := hid (H4.out.1.mono (C := w.heap.size) BW3.out.size)
        have BW4 := hid (BW3.out.trans (b4.out.mono BW3.out.size))
        have FS4 : Hid (Far2 (.slice A3 n3 c3) (.slice A4 n4 c4')) := hid fun b hb hb2 => by
          have h1 := (own_lt H3.out.own b hb).2
          have h2 := (own_lt H4.out.1 b hb2).1
          omega
        have PM : Hid ((ls ++ [(x1, x2)]).Perm (wi (x1, x2) la)) := hid (((List.perm_append_comm (l₁ := ls) (l₂ := [(x1, x2)])).trans (HPm.out.cons _)).trans (wi_perm _ _).symm)
        rcases KB with ⟨rfl, rfl, GB⟩ | ⟨heb, rfl, GB⟩
        case inl =>
          have HGB := hid GB
          clear GB
          go_wp2
          go_roundg (n - (k + 1))
          case measure => omega
          case rel => exact ⟨k + 1, A2, n2, c2', A4, n4, c4', A3, n3, c3, _, _, _, rfl, rfl, rfl, by go_num, by omega, by omega, BW4, hid ⟨OA4.out, NB4.out, OS4.out, K3.out.2, FS4.out⟩, hid ⟨HGA.out, HGB.out, PM.out⟩⟩
        case inr =>
          have HGB := hid GB
          have hz2 : (eb == 0) = false := by rcases heb with h | h <;> simp [h]
          clear GB heb
          go_wp2
          go_roundg (n - (k + 1))
          case measure => omega
          case rel => exact ⟨k + 1, A2, n2, c2', Ab, nb, cb, A3, n3, c3, _, _, _, rfl, rfl, rfl, by go_num, by omega, by omega, BW4, hid ⟨OA4.out, OB4.out, OS4.out, K3.out.2, KB3.out.2⟩, hid ⟨HGA.out, HGB.out, PM.out⟩⟩
      case inr =>
        have HGA := hid GA
        have hz1 : (ea == 0) = false := by rcases hea with h | h <;> simp [h]
        have hz3 : ((ea != 12) && (ea != 8)) = false := by rcases hea with h | h <;> simp [h]
        clear GA
        have go : True := trivial
        rcases hea with rfl | rfl
        all_goals
          go_wp2_with fail
          refine (CB.out w2 OB2.out).mono ?_
          rintro e w4 ⟨vb, rfl, H4⟩
          obtain ⟨A4, n4, c4', rfl, _, _⟩ := od_letter H4.out.1
          have b4 := hid H4.out.2
          have OA4 := hid (OA2.out.below b4.out)
          have OS4 := hid (OS2.out.below b4.out)
          have OB4 := hid (OB2.out.below b4.out)
          have NB4 := hid (H4.out.1.mono (C := w.heap.size) BW2.out.size)
          have BW4 := hid (BW2.out.trans (b4.out.mono BW2.out.size))
          have FS4 : Hid (Far2 (.slice As ns cs) (.slice A4 n4 c4')) := hid fun b hb hb2 => by
            have h1 := (own_lt OS2.out b hb).2
            have h2 := (own_lt H4.out.1 b hb2).1
            omega
          rcases KB with ⟨rfl, rfl, GB⟩ | ⟨heb, rfl, GB⟩
          · have HGB := hid GB
            clear GB
            go_wp2
            go_roundg (n - (k + 1))
            case measure => omega
            case rel => exact ⟨k + 1, Aa, na, ca, A4, n4, c4', As, ns, cs, _, _, _, rfl, rfl, rfl, by go_num, by omega, by omega, BW4, hid ⟨OA4.out, NB4.out, OS4.out, FAB.out.1, FS4.out⟩, hid ⟨HGA.out, HGB.out, HPm.out⟩⟩
          · have HGB := hid GB
            have hz2 : (eb == 0) = false := by rcases heb with h | h <;> simp [h]
            clear GB heb
            go_wp2
            go_roundg (n - (k + 1))
            case measure => omega
            case rel => exact ⟨k + 1, Aa, na, ca, Ab, nb, cb, As, ns, cs, _, _, _, rfl, rfl, rfl, by go_num, by omega, by omega, BW4, hid ⟨OA4.out, OB4.out, OS4.out, FAB.out.1, FAB.out.2⟩, hid ⟨HGA.out, HGB.out, HPm.out⟩⟩
    case neg =>
      have hlt : ¬ (k : Int) < (n : Int) := by omega
      obtain rfl : k = n := by omega
      have hta : l.take k = l := List.take_of_length_le (by rw [HL.out]; exact Nat.le_refl _)
      have htb : l.reverse.take k = l.reverse := List.take_of_length_le (by rw [List.length_reverse, HL.out]; exact Nat.le_refl _)
      have GA : Good la l := hta ▸ HP.out.1
      have GB : Good lb l.reverse := htb ▸ HP.out.2.1
      have HAB := hid (show la = lb from GA.uniq GB (fun y => by rw [List.mem_reverse]))
      have HCK := hid (GA.ck (by rw [HL.out]; omega))
      have HPm := hid HP.out.2.2
      have HST := hid GA.st
      have HLn := hid (show ls.length = la.length from HPm.out.length_eq)
      have HOL := hid (show orE ls = 0 ∧ orL ls = la by
        obtain ⟨e1, e2⟩ := or_ok (l := ls) (by have h1 := GA.len; have h2 := HLn.out; have h3 := HL.out; omega) (List.any_eq_false.2 fun x hx => by
          have h1 := ((GA.mem x).1 (HPm.out.mem_iff.1 hx)).2
          rw [h1]; simp)
        exact ⟨e1, e2.trans (st_unique (ordL_ok ls).1 GA.st (fun x => by rw [(ordL_ok ls).2.1, HPm.out.mem_iff]))⟩)
      clear hta htb GA GB C1
      have C2 := porder_any HO.out.2.2.1.ds (Nat.le_refl _)
      rw [HOL.out.1, HOL.out.2] at C2
      unfold LstE at C2
      go_wp2_with fail
      refine C2.mono ?_
      rintro e w2 ⟨vo, rfl, H2⟩
      obtain ⟨A2, n2, c2', rfl, _, _⟩ := od_letter H2.out.1
      have b2 := hid H2.out.2
      have BW2 := hid (BW.out.trans (b2.out.mono BW.out.size))
      have OO := hid H2.out.1
      have OA := hid (HO.out.1.below b2.out)
      have OB := hid (HO.out.2.1.below b2.out)
      have OS := hid (HO.out.2.2.1.below b2.out)
      clear H2 b2 HO HP C2 BW
      have C3 := rsame_any OA.out.ds OB.out.ds (Nat.le_refl _) (Nat.le_refl _)
      rw [decide_eq_true HAB.out] at C3
      unfold Tel at C3
      go_wp2_with fail
      refine C3.mono ?_
      rintro e w3 ⟨rfl, b3⟩
      have BW3 := hid (BW2.out.trans (b3.out.mono BW2.out.size))
      have OO3 := hid (OO.out.below b3.out)
      have OA3 := hid (OA.out.below b3.out)
      have OS3 := hid (OS.out.below b3.out)
      clear b3 BW2 OA OB OS C3
      have C4 := rsame_any OA3.out.ds OO3.out.ds (Nat.le_refl _) (Nat.le_refl _)
      rw [decide_eq_true rfl] at C4
      unfold Tel at C4
      go_wp2_with fail
      refine C4.mono ?_
      rintro e w4 ⟨rfl, b4⟩
      have BW4 := hid (BW3.out.trans (b4.out.mono BW3.out.size))
      have OA4 := hid (OA3.out.below b4.out)
      have OS4 := hid (OS3.out.below b4.out)
      have OO4 := hid (OO3.out.row_len)
      clear b4 BW3 OA3 OS3 OO3 C4
      have C5 := pcheck_any OA4.out.ds (Nat.le_refl _)
      rw [HCK.out] at C5
      go_wp2_with fail
      refine C5.mono ?_
      rintro e w5 ⟨rfl, b5⟩
      have BW5 := hid (BW4.out.trans (b5.out.mono BW4.out.size))
      have OA5 := hid (OA4.out.below b5.out)
      have OS5 := hid (OS4.out.below b5.out)
      clear b5 BW4 OA4 OS4 C5
      have hnn : n2 = ns := by have h1 := OO4.out; have h2 := OS5.out.row_len; have h3 := HLn.out; omega
      subst hnn
      have hsm : n2 ≤ 100000 := by have h1 := OS5.out.max; have h2 := OS5.out.row_len; omega
      rcases Nat.eq_zero_or_pos n2 with hn0 | hn0
      · subst hn0
        have C6 := pnext_any OA5.out.ds (Nat.le_refl _)
        rw [(nx_none HCK.out (by have h1 := OS5.out.row_len; have h3 := HLn.out; omega)).1, (nx_none HCK.out (by have h1 := OS5.out.row_len; have h3 := HLn.out; omega)).2] at C6
        unfold OneE dv at C6
        go_wp2_with fail
        refine C6.mono ?_
        rintro e w6 ⟨rfl, b6⟩
        go_upto_region 21 with fail
        obtain ⟨w7, hw7⟩ : ∃ X, X = w6.alloc (.cells #[.int .i64 0, .int .i64 0] 23) := ⟨_, rfl⟩
        rw [← hw7]
        have b7 : Hid (Below w6.heap.size w6 w7) := hid (hw7 ▸ box1 w6 0 0)
        have X7 : Hid (Dbx w7 w6.heap.size (0, 0)) := hid (hw7 ▸ heap_alloc_new w6 _)
        clear hw7
        have BW7 := hid ((BW5.out.trans (b6.out.mono BW5.out.size)).trans (b7.out.mono (Nat.le_trans BW5.out.size b6.out.size)))
        have OS7 := hid ((OS5.out.below b6.out).below b7.out)
        go_wp2
        go_loopg [16] 0 (fun gg s16 wr => s16 = .int .i64 0 ∧ Hid (Below w.heap.size w wr))
        case atStart => exact ⟨rfl, BW7⟩
        case round =>
          obtain ⟨rfl, BW8⟩ := hrel
          go_wp2
          go_ret
          exact ⟨rfl, BW8.out⟩
      · have hps : (n2 : Int) > 0 := by omega
        obtain ⟨x, hx⟩ : ∃ x, la[0]? = some x := ⟨_, List.getElem?_eq_getElem (by have h1 := OS5.out.row_len; have h3 := HLn.out; omega)⟩
        have HX0 := hid hx
        have HLE := hid (show ∀ y ∈ ls, le x y from fun y hy => root (st_heap HST.out.so) hx y (HPm.out.mem_iff.1 hy))
        clear hx
        obtain ⟨x1, x2⟩ := x
        have C6 := pnext_any OA5.out.ds (Nat.le_refl _)
        rw [(nx_ok HCK.out HX0.out).1, (nx_ok HCK.out HX0.out).2] at C6
        unfold OneE dv at C6
        go_wp2_with fail
        refine C6.mono ?_
        rintro e w6 ⟨rfl, b6⟩
        go_upto_region 21 with fail
        obtain ⟨w7, hw7⟩ : ∃ X, X = w6.alloc (.cells #[.int .i64 x1, .int .i64 x2] 23) := ⟨_, rfl⟩
        rw [← hw7]
        have b7 : Hid (Below w6.heap.size w6 w7) := hid (hw7 ▸ box1 w6 x1 x2)
        have X7 : Hid (Dbx w7 w6.heap.size (x1, x2)) := hid (hw7 ▸ heap_alloc_new w6 _)
        clear hw7
        have BW7 := hid ((BW5.out.trans (b6.out.mono BW5.out.size)).trans (b7.out.mono (Nat.le_trans BW5.out.size b6.out.size)))
        have OS7 := hid ((OS5.out.below b6.out).below b7.out)
        go_wp2
        go_loopg [16] n2 (fun gg s16 wr => ∃ i : Nat, s16 = .int .i64 i ∧ i ≤ n2 ∧ n2 - i ≤ gg ∧ Hid (Below w7.heap.size w7 wr))
        case atStart => exact ⟨0, rfl, Nat.zero_le _, by omega, hid (Below.refl _ _)⟩
        case round =>
          obtain ⟨i, rfl, hi, hig, B8⟩ := hrel
          have BW8 := hid (BW7.out.trans (B8.out.mono BW7.out.size))
          by_cases hin : i < n2
          case neg =>
            have hlt2 : ¬ (i : Int) < (n2 : Int) := by omega
            obtain rfl : i = n2 := by omega
            go_wp2
            go_ret
            exact ⟨rfl, BW8.out⟩
          have hlt2 : (i : Int) < (n2 : Int) := by omega
          have OS8 := hid (OS7.out.below B8.out)
          obtain ⟨y, hy⟩ := OS8.out.ds.get hin
          have hly := HLE.out y (List.mem_of_getElem? hy)
          rw [le_iff] at hly
          obtain ⟨b, off, rfl, hb, hcc⟩ := OS8.out.ds.at_ (by omega)
          obtain ⟨c1, c2⟩ := hcc i y hy
          have X8 := hid (X7.out.below B8.out X7.out.lt)
          have c3 := X8.out.c0
          have c4 := X8.out.c1
          obtain ⟨y1, y2⟩ := y
          change wr.cell? ⟨b, off + i * 2, none⟩ = some (.int .i64 y1) at c1
          change wr.cell? ⟨b, off + i * 2 + 1, none⟩ = some (.int .i64 y2) at c2
          change wr.cell? ⟨w6.heap.size, 0, none⟩ = some (.int .i64 x1) at c3
          change wr.cell? ⟨w6.heap.size, 1, none⟩ = some (.int .i64 x2) at c4
          have hly2 : x1 < y1 ∨ x1 = y1 ∧ x2 ≤ y2 := hly
          have hd1 : decide (y1 < x1) = false := decide_eq_false (by omega)
          have CF : Hid (wr.drew.cell? ⟨b, off + i * 2, none⟩ = some (.int .i64 y1) ∧ wr.drew.cell? ⟨b, off + i * 2 + 1, none⟩ = some (.int .i64 y2) ∧ wr.drew.cell? ⟨w6.heap.size, 0, none⟩ = some (.int .i64 x1) ∧ wr.drew.cell? ⟨w6.heap.size, 1, none⟩ = some (.int .i64 x2)) := hid ⟨c1, c2, c3, c4⟩
          have BZ : Hid (Below w7.heap.size w7 wr.drew) := hid B8.out.drew
          clear c1 c2 c3 c4 hcc hy hly hb
          by_cases h1 : y1 = x1
          case neg =>
            have hq1 : (y1 == x1) = false := by simp [h1]
            clear h1 hly2
            go_upto_region 24 with fail
            have mixed : Try.prog.follows .mixedOrders = true := by kernel_rfl
            refine wp_region_held_drew (S := fun X => X.cell? ⟨b, off + i * 2, none⟩ = some (.int .i64 y1) ∧ X.cell? ⟨b, off + i * 2 + 1, none⟩ = some (.int .i64 y2) ∧ X.cell? ⟨w6.heap.size, 0, none⟩ = some (.int .i64 x1) ∧ X.cell? ⟨w6.heap.size, 1, none⟩ = some (.int .i64 x2)) (by kernel_rfl) CF.out (fun hHeld => ?_)
            generalize wr.drew = V at *
            refine wpAnyH_take (i := 0) (v := ?vea1) rfl (by kernel_rfl) (by kernel_rfl) (by kernel_rfl) (fun _ _ _ h => h) (Or.inl ⟨by rfl, ?yea1⟩) (by assumption) ?rea1
            case yea1 => (intro w0 hSw; (try dsimp only at hSw); (try simp only [List.getElem_toArray, List.getElem_cons_zero]); (try obtain ⟨s1, s2, s3, s4⟩ := hSw); go_simp; try with_reducible rfl)
            (try simp only [Act.put, List.setIfInBounds_toArray, List.set_cons_zero, List.set_cons_succ, List.getElem_toArray, List.getElem_cons_zero])
            refine wpAnyH_take (i := 1) (v := ?vea2) rfl (by kernel_rfl) (by kernel_rfl) (by kernel_rfl) (fun _ _ _ h => h) (Or.inl ⟨by rfl, ?yea2⟩) (by assumption) ?rea2
            case yea2 => (intro w0 hSw; (try dsimp only at hSw); (try simp only [List.getElem_toArray, List.getElem_cons_succ, List.getElem_cons_zero]); (try obtain ⟨s1, s2, s3, s4⟩ := hSw); go_simp; try with_reducible rfl)
            (try simp only [Act.put, List.setIfInBounds_toArray, List.set_cons_zero, List.set_cons_succ, List.getElem_toArray, List.getElem_cons_succ, List.getElem_cons_zero])
            refine wpAnyH_take (i := 2) (v := ?vea3) rfl (by kernel_rfl) (by kernel_rfl) (by kernel_rfl) (fun _ _ _ h => h) (Or.inl ⟨by rfl, ?yea3⟩) (by assumption) ?rea3
            case yea3 => (intro w0 hSw; (try dsimp only at hSw); (try simp only [List.getElem_toArray, List.getElem_cons_succ, List.getElem_cons_zero]); (try obtain ⟨s1, s2, s3, s4⟩ := hSw); go_simp; try with_reducible rfl)
            (try simp only [Act.put, List.setIfInBounds_toArray, List.set_cons_zero, List.set_cons_succ, List.getElem_toArray, List.getElem_cons_succ, List.getElem_cons_zero])
            refine wpAnyH_take (i := 3) (v := ?vea4) rfl (by kernel_rfl) (by kernel_rfl) (by kernel_rfl) (fun _ _ _ h => h) (Or.inl ⟨by rfl, ?yea4⟩) (by assumption) ?rea4
            case yea4 => (intro w0 hSw; (try dsimp only at hSw); (try simp only [List.getElem_toArray, List.getElem_cons_succ, List.getElem_cons_zero]); (try obtain ⟨s1, s2, s3, s4⟩ := hSw); go_simp; try with_reducible rfl)
            (try simp only [Act.put, List.setIfInBounds_toArray, List.set_cons_zero, List.set_cons_succ, List.getElem_toArray, List.getElem_cons_succ, List.getElem_cons_zero])
            refine wpAnyH_take (i := 4) (v := ?vea5) rfl (by kernel_rfl) (by kernel_rfl) (by kernel_rfl) (fun _ _ _ h => h) (Or.inl ⟨by rfl, ?yea5⟩) (by assumption) ?rea5
            case yea5 => (intro w0 hSw; (try dsimp only at hSw); (try simp only [List.getElem_toArray, List.getElem_cons_succ, List.getElem_cons_zero]); (try obtain ⟨s1, s2, s3, s4⟩ := hSw); go_simp; try with_reducible rfl)
            (try simp only [Act.put, List.setIfInBounds_toArray, List.set_cons_zero, List.set_cons_succ, List.getElem_toArray, List.getElem_cons_succ, List.getElem_cons_zero])
            refine wpAnyH_take (i := 5) (v := ?vea6) rfl (by kernel_rfl) (by kernel_rfl) (by kernel_rfl) (fun _ _ _ h => h) (Or.inl ⟨by rfl, ?yea6⟩) (by assumption) ?rea6
            case yea6 => (intro w0 hSw; (try dsimp only at hSw); (try simp only [List.getElem_toArray, List.getElem_cons_succ, List.getElem_cons_zero]); (try obtain ⟨s1, s2, s3, s4⟩ := hSw); go_simp; try with_reducible rfl)
            (try simp only [Act.put, List.setIfInBounds_toArray, List.set_cons_zero, List.set_cons_succ, List.getElem_toArray, List.getElem_cons_succ, List.getElem_cons_zero])
            refine wpAnyH_take (i := 6) (v := ?vea7) rfl (by kernel_rfl) (by kernel_rfl) (by kernel_rfl) (fun _ _ _ h => h) (Or.inl ⟨by rfl, ?yea7⟩) (by assumption) ?rea7
            case yea7 => (intro w0 hSw; (try dsimp only at hSw); (try simp only [List.getElem_toArray, List.getElem_cons_succ, List.getElem_cons_zero]); (try obtain ⟨s1, s2, s3, s4⟩ := hSw); go_simp; try with_reducible rfl)
            (try simp only [Act.put, List.setIfInBounds_toArray, List.set_cons_zero, List.set_cons_succ, List.getElem_toArray, List.getElem_cons_succ, List.getElem_cons_zero])
            refine wpAnyH_take (i := 7) (v := ?vea8) rfl (by kernel_rfl) (by kernel_rfl) (by kernel_rfl) (fun _ _ _ h => h) (Or.inl ⟨by rfl, ?yea8⟩) (by assumption) ?rea8
            case yea8 => (intro w0 hSw; (try dsimp only at hSw); (try simp only [List.getElem_toArray, List.getElem_cons_succ, List.getElem_cons_zero]); (try obtain ⟨s1, s2, s3, s4⟩ := hSw); go_simp; try with_reducible rfl)
            (try simp only [Act.put, List.setIfInBounds_toArray, List.set_cons_zero, List.set_cons_succ, List.getElem_toArray, List.getElem_cons_succ, List.getElem_cons_zero])
            refine wpAnyH_take (i := 8) (v := ?vea9) rfl (by kernel_rfl) (by kernel_rfl) (by kernel_rfl) (fun _ _ _ h => h) (Or.inl ⟨by rfl, ?yea9⟩) (by assumption) ?rea9
            case yea9 => (intro w0 hSw; (try dsimp only at hSw); (try simp only [List.getElem_toArray, List.getElem_cons_succ, List.getElem_cons_zero]); (try obtain ⟨s1, s2, s3, s4⟩ := hSw); go_simp; try with_reducible rfl)
            (try simp only [Act.put, List.setIfInBounds_toArray, List.set_cons_zero, List.set_cons_succ, List.getElem_toArray, List.getElem_cons_succ, List.getElem_cons_zero])
            refine wpAnyH_take (i := 9) (v := ?vea10) rfl (by kernel_rfl) (by kernel_rfl) (by kernel_rfl) (fun _ _ _ h => h) (Or.inl ⟨by rfl, ?yea10⟩) (by assumption) ?rea10
            case yea10 => (intro w0 hSw; (try dsimp only at hSw); (try simp only [List.getElem_toArray, List.getElem_cons_succ, List.getElem_cons_zero]); (try obtain ⟨s1, s2, s3, s4⟩ := hSw); go_simp; try with_reducible rfl)
            (try simp only [Act.put, List.setIfInBounds_toArray, List.set_cons_zero, List.set_cons_succ, List.getElem_toArray, List.getElem_cons_succ, List.getElem_cons_zero])
            refine wpAnyH_take (i := 10) (v := ?vea11) rfl (by kernel_rfl) (by kernel_rfl) (by kernel_rfl) (fun _ _ _ h => h) (Or.inl ⟨by rfl, ?yea11⟩) (by assumption) ?rea11
            case yea11 => (intro w0 hSw; (try dsimp only at hSw); (try simp only [List.getElem_toArray, List.getElem_cons_succ, List.getElem_cons_zero]); (try obtain ⟨s1, s2, s3, s4⟩ := hSw); go_simp; try with_reducible rfl)
            (try simp only [Act.put, List.setIfInBounds_toArray, List.set_cons_zero, List.set_cons_succ, List.getElem_toArray, List.getElem_cons_succ, List.getElem_cons_zero])
            refine wpAnyH_take (i := 11) (v := ?vea12) rfl (by kernel_rfl) (by kernel_rfl) (by kernel_rfl) (fun _ _ _ h => h) (Or.inl ⟨by rfl, ?yea12⟩) (by assumption) ?rea12
            case yea12 => (intro w0 hSw; (try dsimp only at hSw); (try simp only [List.getElem_toArray, List.getElem_cons_succ, List.getElem_cons_zero]); (try obtain ⟨s1, s2, s3, s4⟩ := hSw); go_simp; try with_reducible rfl)
            (try simp only [Act.put, List.setIfInBounds_toArray, List.set_cons_zero, List.set_cons_succ, List.getElem_toArray, List.getElem_cons_succ, List.getElem_cons_zero])
            refine wpAnyH_take (i := 12) (v := ?vea13) rfl (by kernel_rfl) (by kernel_rfl) (by kernel_rfl) (fun _ _ _ h => h) (Or.inl ⟨by rfl, ?yea13⟩) (by assumption) ?rea13
            case yea13 => (intro w0 hSw; (try dsimp only at hSw); (try simp only [List.getElem_toArray, List.getElem_cons_succ, List.getElem_cons_zero]); (try obtain ⟨s1, s2, s3, s4⟩ := hSw); go_simp; try with_reducible rfl)
            (try simp only [Act.put, List.setIfInBounds_toArray, List.set_cons_zero, List.set_cons_succ, List.getElem_toArray, List.getElem_cons_succ, List.getElem_cons_zero])
            refine wpAnyH_take (i := 13) (v := ?vea14) rfl (by kernel_rfl) (by kernel_rfl) (by kernel_rfl) (fun _ _ _ h => h) (Or.inl ⟨by rfl, ?yea14⟩) (by assumption) ?rea14
            case yea14 => (intro w0 hSw; (try dsimp only at hSw); (try simp only [List.getElem_toArray, List.getElem_cons_succ, List.getElem_cons_zero]); (try obtain ⟨s1, s2, s3, s4⟩ := hSw); go_simp; try with_reducible rfl)
            (try simp only [Act.put, List.setIfInBounds_toArray, List.set_cons_zero, List.set_cons_succ, List.getElem_toArray, List.getElem_cons_succ, List.getElem_cons_zero])
            refine wpAnyH_take (i := 14) (v := ?vea15) rfl (by kernel_rfl) (by kernel_rfl) (by kernel_rfl) (fun _ _ _ h => h) (Or.inl ⟨by rfl, ?yea15⟩) (by assumption) ?rea15
            case yea15 => (intro w0 hSw; (try dsimp only at hSw); (try simp only [List.getElem_toArray, List.getElem_cons_succ, List.getElem_cons_zero]); (try obtain ⟨s1, s2, s3, s4⟩ := hSw); go_simp; try with_reducible rfl)
            (try simp only [Act.put, List.setIfInBounds_toArray, List.set_cons_zero, List.set_cons_succ, List.getElem_toArray, List.getElem_cons_succ, List.getElem_cons_zero])
            refine wpAnyH_take (i := 15) (v := ?vea16) rfl (by kernel_rfl) (by kernel_rfl) (by kernel_rfl) (fun _ _ _ h => h) (Or.inl ⟨by rfl, ?yea16⟩) (by assumption) ?rea16
            case yea16 => (intro w0 hSw; (try dsimp only at hSw); (try simp only [List.getElem_toArray, List.getElem_cons_succ, List.getElem_cons_zero]); (try obtain ⟨s1, s2, s3, s4⟩ := hSw); go_simp; try with_reducible rfl)
            (try simp only [Act.put, List.setIfInBounds_toArray, List.set_cons_zero, List.set_cons_succ, List.getElem_toArray, List.getElem_cons_succ, List.getElem_cons_zero])
            refine wpAnyH_take (i := 16) (v := ?vea17) rfl (by kernel_rfl) (by kernel_rfl) (by kernel_rfl) (fun _ _ _ h => h) (Or.inl ⟨by rfl, ?yea17⟩) (by assumption) ?rea17
            case yea17 => (intro w0 hSw; (try dsimp only at hSw); (try simp only [List.getElem_toArray, List.getElem_cons_succ, List.getElem_cons_zero]); (try obtain ⟨s1, s2, s3, s4⟩ := hSw); go_simp; try with_reducible rfl)
            (try simp only [Act.put, List.setIfInBounds_toArray, List.set_cons_zero, List.set_cons_succ, List.getElem_toArray, List.getElem_cons_succ, List.getElem_cons_zero])
            refine wpAnyH_take (i := 17) (v := ?vea18) rfl (by kernel_rfl) (by kernel_rfl) (by kernel_rfl) (fun _ _ _ h => h) (Or.inl ⟨by rfl, ?yea18⟩) (by assumption) ?rea18
            case yea18 => (intro w0 hSw; (try dsimp only at hSw); (try simp only [List.getElem_toArray, List.getElem_cons_succ, List.getElem_cons_zero]); (try obtain ⟨s1, s2, s3, s4⟩ := hSw); go_simp; try with_reducible rfl)
            (try simp only [Act.put, List.setIfInBounds_toArray, List.set_cons_zero, List.set_cons_succ, List.getElem_toArray, List.getElem_cons_succ, List.getElem_cons_zero])
            refine wpAnyH_take (i := 18) (v := undef) rfl (by kernel_rfl) (by kernel_rfl) (by kernel_rfl) (fun _ _ _ h => h) (Or.inr ⟨by rfl, rfl⟩) (by assumption) ?_
            (try simp only [Act.put, List.setIfInBounds_toArray, List.set_cons_zero, List.set_cons_succ, List.getElem_toArray, List.getElem_cons_succ, List.getElem_cons_zero])
            refine wpAnyH_take (i := 19) (v := undef) rfl (by kernel_rfl) (by kernel_rfl) (by kernel_rfl) (fun _ _ _ h => h) (Or.inr ⟨by rfl, rfl⟩) (by assumption) ?_
            (try simp only [Act.put, List.setIfInBounds_toArray, List.set_cons_zero, List.set_cons_succ, List.getElem_toArray, List.getElem_cons_succ, List.getElem_cons_zero])
            refine wpAnyH_take (i := 20) (v := undef) rfl (by kernel_rfl) (by kernel_rfl) (by kernel_rfl) (fun _ _ _ h => h) (Or.inr ⟨by rfl, rfl⟩) (by assumption) ?_
            (try simp only [Act.put, List.setIfInBounds_toArray, List.set_cons_zero, List.set_cons_succ, List.getElem_toArray, List.getElem_cons_succ, List.getElem_cons_zero])
            refine wpAnyH_take (i := 21) (v := undef) rfl (by kernel_rfl) (by kernel_rfl) (by kernel_rfl) (fun _ _ _ h => h) (Or.inr ⟨by rfl, rfl⟩) (by assumption) ?_
            (try simp only [Act.put, List.setIfInBounds_toArray, List.set_cons_zero, List.set_cons_succ, List.getElem_toArray, List.getElem_cons_succ, List.getElem_cons_zero])
            refine wpAnyH_take (i := 22) (v := undef) rfl (by kernel_rfl) (by kernel_rfl) (by kernel_rfl) (fun _ _ _ h => h) (Or.inr ⟨by rfl, rfl⟩) (by assumption) ?_
            (try simp only [Act.put, List.setIfInBounds_toArray, List.set_cons_zero, List.set_cons_succ, List.getElem_toArray, List.getElem_cons_succ, List.getElem_cons_zero])
            refine wpAnyH_take (i := 23) (v := undef) rfl (by kernel_rfl) (by kernel_rfl) (by kernel_rfl) (fun _ _ _ h => h) (Or.inr ⟨by rfl, rfl⟩) (by assumption) ?_
            (try simp only [Act.put, List.setIfInBounds_toArray, List.set_cons_zero, List.set_cons_succ, List.getElem_toArray, List.getElem_cons_succ, List.getElem_cons_zero])
            refine wpAnyH_take (i := 24) (v := undef) rfl (by kernel_rfl) (by kernel_rfl) (by kernel_rfl) (fun _ _ _ h => h) (Or.inr ⟨by rfl, rfl⟩) (by assumption) ?_
            (try simp only [Act.put, List.setIfInBounds_toArray, List.set_cons_zero, List.set_cons_succ, List.getElem_toArray, List.getElem_cons_succ, List.getElem_cons_zero])
            refine wpAnyH_take (i := 25) (v := undef) rfl (by kernel_rfl) (by kernel_rfl) (by kernel_rfl) (fun _ _ _ h => h) (Or.inr ⟨by rfl, rfl⟩) (by assumption) ?_
            (try simp only [Act.put, List.setIfInBounds_toArray, List.set_cons_zero, List.set_cons_succ, List.getElem_toArray, List.getElem_cons_succ, List.getElem_cons_zero])
            refine wpAnyH_take (i := 26) (v := ?vea19) rfl (by kernel_rfl) (by kernel_rfl) (by kernel_rfl) (fun _ _ _ h => h) (Or.inl ⟨by rfl, ?yea19⟩) (by assumption) ?rea19
            case yea19 => (intro w0 hSw; (try dsimp only at hSw); (try simp only [List.getElem_toArray, List.getElem_cons_succ, List.getElem_cons_zero]); (try obtain ⟨s1, s2, s3, s4⟩ := hSw); go_simp; try with_reducible rfl)
            (try simp only [Act.put, List.setIfInBounds_toArray, List.set_cons_zero, List.set_cons_succ, List.getElem_toArray, List.getElem_cons_succ, List.getElem_cons_zero])
            refine wpAnyH_take (i := 27) (v := ?vea20) rfl (by kernel_rfl) (by kernel_rfl) (by kernel_rfl) (fun _ _ _ h => h) (Or.inl ⟨by rfl, ?yea20⟩) (by assumption) ?rea20
            case yea20 => (intro w0 hSw; (try dsimp only at hSw); (try simp only [List.getElem_toArray, List.getElem_cons_succ, List.getElem_cons_zero]); (try obtain ⟨s1, s2, s3, s4⟩ := hSw); go_simp; try with_reducible rfl)
            (try simp only [Act.put, List.setIfInBounds_toArray, List.set_cons_zero, List.set_cons_succ, List.getElem_toArray, List.getElem_cons_succ, List.getElem_cons_zero])
            refine wpAnyH_done (by kernel_rfl) ?_ _
            go_wp2
            go_roundg (n2 - (i + 1))
            case measure => omega
            case rel => exact ⟨i + 1, by go_num, by omega, by omega, BZ⟩
          case pos =>
            have hq1 : (y1 == x1) = true := by simp [h1]
            have hd2 : decide (y2 < x2) = false := decide_eq_false (by omega)
            clear h1 hly2
            go_upto_region 24 with fail
            have mixed : Try.prog.follows .mixedOrders = true := by kernel_rfl
            refine wp_region_held_drew (S := fun X => X.cell? ⟨b, off + i * 2, none⟩ = some (.int .i64 y1) ∧ X.cell? ⟨b, off + i * 2 + 1, none⟩ = some (.int .i64 y2) ∧ X.cell? ⟨w6.heap.size, 0, none⟩ = some (.int .i64 x1) ∧ X.cell? ⟨w6.heap.size, 1, none⟩ = some (.int .i64 x2)) (by kernel_rfl) CF.out (fun hHeld => ?_)
            generalize wr.drew = V at *
            refine wpAnyH_take (i := 0) (v := ?veb1) rfl (by kernel_rfl) (by kernel_rfl) (by kernel_rfl) (fun _ _ _ h => h) (Or.inl ⟨by rfl, ?yeb1⟩) (by assumption) ?reb1
            case yeb1 => (intro w0 hSw; (try dsimp only at hSw); (try simp only [List.getElem_toArray, List.getElem_cons_zero]); (try obtain ⟨s1, s2, s3, s4⟩ := hSw); go_simp; try with_reducible rfl)
            (try simp only [Act.put, List.setIfInBounds_toArray, List.set_cons_zero, List.set_cons_succ, List.getElem_toArray, List.getElem_cons_zero])
            refine wpAnyH_take (i := 1) (v := ?veb2) rfl (by kernel_rfl) (by kernel_rfl) (by kernel_rfl) (fun _ _ _ h => h) (Or.inl ⟨by rfl, ?yeb2⟩) (by assumption) ?reb2
            case yeb2 => (intro w0 hSw; (try dsimp only at hSw); (try simp only [List.getElem_toArray, List.getElem_cons_succ, List.getElem_cons_zero]); (try obtain ⟨s1, s2, s3, s4⟩ := hSw); go_simp; try with_reducible rfl)
            (try simp only [Act.put, List.setIfInBounds_toArray, List.set_cons_zero, List.set_cons_succ, List.getElem_toArray, List.getElem_cons_succ, List.getElem_cons_zero])
            refine wpAnyH_take (i := 2) (v := ?veb3) rfl (by kernel_rfl) (by kernel_rfl) (by kernel_rfl) (fun _ _ _ h => h) (Or.inl ⟨by rfl, ?yeb3⟩) (by assumption) ?reb3
            case yeb3 => (intro w0 hSw; (try dsimp only at hSw); (try simp only [List.getElem_toArray, List.getElem_cons_succ, List.getElem_cons_zero]); (try obtain ⟨s1, s2, s3, s4⟩ := hSw); go_simp; try with_reducible rfl)
            (try simp only [Act.put, List.setIfInBounds_toArray, List.set_cons_zero, List.set_cons_succ, List.getElem_toArray, List.getElem_cons_succ, List.getElem_cons_zero])
            refine wpAnyH_take (i := 3) (v := ?veb4) rfl (by kernel_rfl) (by kernel_rfl) (by kernel_rfl) (fun _ _ _ h => h) (Or.inl ⟨by rfl, ?yeb4⟩) (by assumption) ?reb4
            case yeb4 => (intro w0 hSw; (try dsimp only at hSw); (try simp only [List.getElem_toArray, List.getElem_cons_succ, List.getElem_cons_zero]); (try obtain ⟨s1, s2, s3, s4⟩ := hSw); go_simp; try with_reducible rfl)
            (try simp only [Act.put, List.setIfInBounds_toArray, List.set_cons_zero, List.set_cons_succ, List.getElem_toArray, List.getElem_cons_succ, List.getElem_cons_zero])
            refine wpAnyH_take (i := 4) (v := ?veb5) rfl (by kernel_rfl) (by kernel_rfl) (by kernel_rfl) (fun _ _ _ h => h) (Or.inl ⟨by rfl, ?yeb5⟩) (by assumption) ?reb5
            case yeb5 => (intro w0 hSw; (try dsimp only at hSw); (try simp only [List.getElem_toArray, List.getElem_cons_succ, List.getElem_cons_zero]); (try obtain ⟨s1, s2, s3, s4⟩ := hSw); go_simp; try with_reducible rfl)
            (try simp only [Act.put, List.setIfInBounds_toArray, List.set_cons_zero, List.set_cons_succ, List.getElem_toArray, List.getElem_cons_succ, List.getElem_cons_zero])
            refine wpAnyH_take (i := 5) (v := ?veb6) rfl (by kernel_rfl) (by kernel_rfl) (by kernel_rfl) (fun _ _ _ h => h) (Or.inl ⟨by rfl, ?yeb6⟩) (by assumption) ?reb6
            case yeb6 => (intro w0 hSw; (try dsimp only at hSw); (try simp only [List.getElem_toArray, List.getElem_cons_succ, List.getElem_cons_zero]); (try obtain ⟨s1, s2, s3, s4⟩ := hSw); go_simp; try with_reducible rfl)
            (try simp only [Act.put, List.setIfInBounds_toArray, List.set_cons_zero, List.set_cons_succ, List.getElem_toArray, List.getElem_cons_succ, List.getElem_cons_zero])
            refine wpAnyH_take (i := 6) (v := ?veb7) rfl (by kernel_rfl) (by kernel_rfl) (by kernel_rfl) (fun _ _ _ h => h) (Or.inl ⟨by rfl, ?yeb7⟩) (by assumption) ?reb7
            case yeb7 => (intro w0 hSw; (try dsimp only at hSw); (try simp only [List.getElem_toArray, List.getElem_cons_succ, List.getElem_cons_zero]); (try obtain ⟨s1, s2, s3, s4⟩ := hSw); go_simp; try with_reducible rfl)
            (try simp only [Act.put, List.setIfInBounds_toArray, List.set_cons_zero, List.set_cons_succ, List.getElem_toArray, List.getElem_cons_succ, List.getElem_cons_zero])
            refine wpAnyH_take (i := 7) (v := ?veb8) rfl (by kernel_rfl) (by kernel_rfl) (by kernel_rfl) (fun _ _ _ h => h) (Or.inl ⟨by rfl, ?yeb8⟩) (by assumption) ?reb8
            case yeb8 => (intro w0 hSw; (try dsimp only at hSw); (try simp only [List.getElem_toArray, List.getElem_cons_succ, List.getElem_cons_zero]); (try obtain ⟨s1, s2, s3, s4⟩ := hSw); go_simp; try with_reducible rfl)
            (try simp only [Act.put, List.setIfInBounds_toArray, List.set_cons_zero, List.set_cons_succ, List.getElem_toArray, List.getElem_cons_succ, List.getElem_cons_zero])
            refine wpAnyH_take (i := 8) (v := ?veb9) rfl (by kernel_rfl) (by kernel_rfl) (by kernel_rfl) (fun _ _ _ h => h) (Or.inl ⟨by rfl, ?yeb9⟩) (by assumption) ?reb9
            case yeb9 => (intro w0 hSw; (try dsimp only at hSw); (try simp only [List.getElem_toArray, List.getElem_cons_succ, List.getElem_cons_zero]); (try obtain ⟨s1, s2, s3, s4⟩ := hSw); go_simp; try with_reducible rfl)
            (try simp only [Act.put, List.setIfInBounds_toArray, List.set_cons_zero, List.set_cons_succ, List.getElem_toArray, List.getElem_cons_succ, List.getElem_cons_zero])
            refine wpAnyH_take (i := 9) (v := ?veb10) rfl (by kernel_rfl) (by kernel_rfl) (by kernel_rfl) (fun _ _ _ h => h) (Or.inl ⟨by rfl, ?yeb10⟩) (by assumption) ?reb10
            case yeb10 => (intro w0 hSw; (try dsimp only at hSw); (try simp only [List.getElem_toArray, List.getElem_cons_succ, List.getElem_cons_zero]); (try obtain ⟨s1, s2, s3, s4⟩ := hSw); go_simp; try with_reducible rfl)
            (try simp only [Act.put, List.setIfInBounds_toArray, List.set_cons_zero, List.set_cons_succ, List.getElem_toArray, List.getElem_cons_succ, List.getElem_cons_zero])
            refine wpAnyH_take (i := 10) (v := ?veb11) rfl (by kernel_rfl) (by kernel_rfl) (by kernel_rfl) (fun _ _ _ h => h) (Or.inl ⟨by rfl, ?yeb11⟩) (by assumption) ?reb11
            case yeb11 => (intro w0 hSw; (try dsimp only at hSw); (try simp only [List.getElem_toArray, List.getElem_cons_succ, List.getElem_cons_zero]); (try obtain ⟨s1, s2, s3, s4⟩ := hSw); go_simp; try with_reducible rfl)
            (try simp only [Act.put, List.setIfInBounds_toArray, List.set_cons_zero, List.set_cons_succ, List.getElem_toArray, List.getElem_cons_succ, List.getElem_cons_zero])
            refine wpAnyH_take (i := 11) (v := ?veb12) rfl (by kernel_rfl) (by kernel_rfl) (by kernel_rfl) (fun _ _ _ h => h) (Or.inl ⟨by rfl, ?yeb12⟩) (by assumption) ?reb12
            case yeb12 => (intro w0 hSw; (try dsimp only at hSw); (try simp only [List.getElem_toArray, List.getElem_cons_succ, List.getElem_cons_zero]); (try obtain ⟨s1, s2, s3, s4⟩ := hSw); go_simp; try with_reducible rfl)
            (try simp only [Act.put, List.setIfInBounds_toArray, List.set_cons_zero, List.set_cons_succ, List.getElem_toArray, List.getElem_cons_succ, List.getElem_cons_zero])
            refine wpAnyH_take (i := 12) (v := ?veb13) rfl (by kernel_rfl) (by kernel_rfl) (by kernel_rfl) (fun _ _ _ h => h) (Or.inl ⟨by rfl, ?yeb13⟩) (by assumption) ?reb13
            case yeb13 => (intro w0 hSw; (try dsimp only at hSw); (try simp only [List.getElem_toArray, List.getElem_cons_succ, List.getElem_cons_zero]); (try obtain ⟨s1, s2, s3, s4⟩ := hSw); go_simp; try with_reducible rfl)
            (try simp only [Act.put, List.setIfInBounds_toArray, List.set_cons_zero, List.set_cons_succ, List.getElem_toArray, List.getElem_cons_succ, List.getElem_cons_zero])
            refine wpAnyH_take (i := 13) (v := ?veb14) rfl (by kernel_rfl) (by kernel_rfl) (by kernel_rfl) (fun _ _ _ h => h) (Or.inl ⟨by rfl, ?yeb14⟩) (by assumption) ?reb14
            case yeb14 => (intro w0 hSw; (try dsimp only at hSw); (try simp only [List.getElem_toArray, List.getElem_cons_succ, List.getElem_cons_zero]); (try obtain ⟨s1, s2, s3, s4⟩ := hSw); go_simp; try with_reducible rfl)
            (try simp only [Act.put, List.setIfInBounds_toArray, List.set_cons_zero, List.set_cons_succ, List.getElem_toArray, List.getElem_cons_succ, List.getElem_cons_zero])
            refine wpAnyH_take (i := 14) (v := ?veb15) rfl (by kernel_rfl) (by kernel_rfl) (by kernel_rfl) (fun _ _ _ h => h) (Or.inl ⟨by rfl, ?yeb15⟩) (by assumption) ?reb15
            case yeb15 => (intro w0 hSw; (try dsimp only at hSw); (try simp only [List.getElem_toArray, List.getElem_cons_succ, List.getElem_cons_zero]); (try obtain ⟨s1, s2, s3, s4⟩ := hSw); go_simp; try with_reducible rfl)
            (try simp only [Act.put, List.setIfInBounds_toArray, List.set_cons_zero, List.set_cons_succ, List.getElem_toArray, List.getElem_cons_succ, List.getElem_cons_zero])
            refine wpAnyH_take (i := 15) (v := ?veb16) rfl (by kernel_rfl) (by kernel_rfl) (by kernel_rfl) (fun _ _ _ h => h) (Or.inl ⟨by rfl, ?yeb16⟩) (by assumption) ?reb16
            case yeb16 => (intro w0 hSw; (try dsimp only at hSw); (try simp only [List.getElem_toArray, List.getElem_cons_succ, List.getElem_cons_zero]); (try obtain ⟨s1, s2, s3, s4⟩ := hSw); go_simp; try with_reducible rfl)
            (try simp only [Act.put, List.setIfInBounds_toArray, List.set_cons_zero, List.set_cons_succ, List.getElem_toArray, List.getElem_cons_succ, List.getElem_cons_zero])
            refine wpAnyH_take (i := 16) (v := ?veb17) rfl (by kernel_rfl) (by kernel_rfl) (by kernel_rfl) (fun _ _ _ h => h) (Or.inl ⟨by rfl, ?yeb17⟩) (by assumption) ?reb17
            case yeb17 => (intro w0 hSw; (try dsimp only at hSw); (try simp only [List.getElem_toArray, List.getElem_cons_succ, List.getElem_cons_zero]); (try obtain ⟨s1, s2, s3, s4⟩ := hSw); go_simp; try with_reducible rfl)
            (try simp only [Act.put, List.setIfInBounds_toArray, List.set_cons_zero, List.set_cons_succ, List.getElem_toArray, List.getElem_cons_succ, List.getElem_cons_zero])
            refine wpAnyH_take (i := 17) (v := ?veb18) rfl (by kernel_rfl) (by kernel_rfl) (by kernel_rfl) (fun _ _ _ h => h) (Or.inl ⟨by rfl, ?yeb18⟩) (by assumption) ?reb18
            case yeb18 => (intro w0 hSw; (try dsimp only at hSw); (try simp only [List.getElem_toArray, List.getElem_cons_succ, List.getElem_cons_zero]); (try obtain ⟨s1, s2, s3, s4⟩ := hSw); go_simp; try with_reducible rfl)
            (try simp only [Act.put, List.setIfInBounds_toArray, List.set_cons_zero, List.set_cons_succ, List.getElem_toArray, List.getElem_cons_succ, List.getElem_cons_zero])
            refine wpAnyH_take (i := 18) (v := ?veb19) rfl (by kernel_rfl) (by kernel_rfl) (by kernel_rfl) (fun _ _ _ h => h) (Or.inl ⟨by rfl, ?yeb19⟩) (by assumption) ?reb19
            case yeb19 => (intro w0 hSw; (try dsimp only at hSw); (try simp only [List.getElem_toArray, List.getElem_cons_succ, List.getElem_cons_zero]); (try obtain ⟨s1, s2, s3, s4⟩ := hSw); go_simp; try with_reducible rfl)
            (try simp only [Act.put, List.setIfInBounds_toArray, List.set_cons_zero, List.set_cons_succ, List.getElem_toArray, List.getElem_cons_succ, List.getElem_cons_zero])
            refine wpAnyH_take (i := 19) (v := ?veb20) rfl (by kernel_rfl) (by kernel_rfl) (by kernel_rfl) (fun _ _ _ h => h) (Or.inl ⟨by rfl, ?yeb20⟩) (by assumption) ?reb20
            case yeb20 => (intro w0 hSw; (try dsimp only at hSw); (try simp only [List.getElem_toArray, List.getElem_cons_succ, List.getElem_cons_zero]); (try obtain ⟨s1, s2, s3, s4⟩ := hSw); go_simp; try with_reducible rfl)
            (try simp only [Act.put, List.setIfInBounds_toArray, List.set_cons_zero, List.set_cons_succ, List.getElem_toArray, List.getElem_cons_succ, List.getElem_cons_zero])
            refine wpAnyH_take (i := 20) (v := ?veb21) rfl (by kernel_rfl) (by kernel_rfl) (by kernel_rfl) (fun _ _ _ h => h) (Or.inl ⟨by rfl, ?yeb21⟩) (by assumption) ?reb21
            case yeb21 => (intro w0 hSw; (try dsimp only at hSw); (try simp only [List.getElem_toArray, List.getElem_cons_succ, List.getElem_cons_zero]); (try obtain ⟨s1, s2, s3, s4⟩ := hSw); go_simp; try with_reducible rfl)
            (try simp only [Act.put, List.setIfInBounds_toArray, List.set_cons_zero, List.set_cons_succ, List.getElem_toArray, List.getElem_cons_succ, List.getElem_cons_zero])
            refine wpAnyH_take (i := 21) (v := ?veb22) rfl (by kernel_rfl) (by kernel_rfl) (by kernel_rfl) (fun _ _ _ h => h) (Or.inl ⟨by rfl, ?yeb22⟩) (by assumption) ?reb22
            case yeb22 => (intro w0 hSw; (try dsimp only at hSw); (try simp only [List.getElem_toArray, List.getElem_cons_succ, List.getElem_cons_zero]); (try obtain ⟨s1, s2, s3, s4⟩ := hSw); go_simp; try with_reducible rfl)
            (try simp only [Act.put, List.setIfInBounds_toArray, List.set_cons_zero, List.set_cons_succ, List.getElem_toArray, List.getElem_cons_succ, List.getElem_cons_zero])
            refine wpAnyH_take (i := 22) (v := ?veb23) rfl (by kernel_rfl) (by kernel_rfl) (by kernel_rfl) (fun _ _ _ h => h) (Or.inl ⟨by rfl, ?yeb23⟩) (by assumption) ?reb23
            case yeb23 => (intro w0 hSw; (try dsimp only at hSw); (try simp only [List.getElem_toArray, List.getElem_cons_succ, List.getElem_cons_zero]); (try obtain ⟨s1, s2, s3, s4⟩ := hSw); go_simp; try with_reducible rfl)
            (try simp only [Act.put, List.setIfInBounds_toArray, List.set_cons_zero, List.set_cons_succ, List.getElem_toArray, List.getElem_cons_succ, List.getElem_cons_zero])
            refine wpAnyH_take (i := 23) (v := ?veb24) rfl (by kernel_rfl) (by kernel_rfl) (by kernel_rfl) (fun _ _ _ h => h) (Or.inl ⟨by rfl, ?yeb24⟩) (by assumption) ?reb24
            case yeb24 => (intro w0 hSw; (try dsimp only at hSw); (try simp only [List.getElem_toArray, List.getElem_cons_succ, List.getElem_cons_zero]); (try obtain ⟨s1, s2, s3, s4⟩ := hSw); go_simp; try with_reducible rfl)
            (try simp only [Act.put, List.setIfInBounds_toArray, List.set_cons_zero, List.set_cons_succ, List.getElem_toArray, List.getElem_cons_succ, List.getElem_cons_zero])
            refine wpAnyH_take (i := 24) (v := ?veb25) rfl (by kernel_rfl) (by kernel_rfl) (by kernel_rfl) (fun _ _ _ h => h) (Or.inl ⟨by rfl, ?yeb25⟩) (by assumption) ?reb25
            case yeb25 => (intro w0 hSw; (try dsimp only at hSw); (try simp only [List.getElem_toArray, List.getElem_cons_succ, List.getElem_cons_zero]); (try obtain ⟨s1, s2, s3, s4⟩ := hSw); go_simp; try with_reducible rfl)
            (try simp only [Act.put, List.setIfInBounds_toArray, List.set_cons_zero, List.set_cons_succ, List.getElem_toArray, List.getElem_cons_succ, List.getElem_cons_zero])
            refine wpAnyH_take (i := 25) (v := ?veb26) rfl (by kernel_rfl) (by kernel_rfl) (by kernel_rfl) (fun _ _ _ h => h) (Or.inl ⟨by rfl, ?yeb26⟩) (by assumption) ?reb26
            case yeb26 => (intro w0 hSw; (try dsimp only at hSw); (try simp only [List.getElem_toArray, List.getElem_cons_succ, List.getElem_cons_zero]); (try obtain ⟨s1, s2, s3, s4⟩ := hSw); go_simp; try with_reducible rfl)
            (try simp only [Act.put, List.setIfInBounds_toArray, List.set_cons_zero, List.set_cons_succ, List.getElem_toArray, List.getElem_cons_succ, List.getElem_cons_zero])
            refine wpAnyH_take (i := 26) (v := ?veb27) rfl (by kernel_rfl) (by kernel_rfl) (by kernel_rfl) (fun _ _ _ h => h) (Or.inl ⟨by rfl, ?yeb27⟩) (by assumption) ?reb27
            case yeb27 => (intro w0 hSw; (try dsimp only at hSw); (try simp only [List.getElem_toArray, List.getElem_cons_succ, List.getElem_cons_zero]); (try obtain ⟨s1, s2, s3, s4⟩ := hSw); go_simp; try with_reducible rfl)
            (try simp only [Act.put, List.setIfInBounds_toArray, List.set_cons_zero, List.set_cons_succ, List.getElem_toArray, List.getElem_cons_succ, List.getElem_cons_zero])
            refine wpAnyH_take (i := 27) (v := ?veb28) rfl (by kernel_rfl) (by kernel_rfl) (by kernel_rfl) (fun _ _ _ h => h) (Or.inl ⟨by rfl, ?yeb28⟩) (by assumption) ?reb28
            case yeb28 => (intro w0 hSw; (try dsimp only at hSw); (try simp only [List.getElem_toArray, List.getElem_cons_succ, List.getElem_cons_zero]); (try obtain ⟨s1, s2, s3, s4⟩ := hSw); go_simp; try with_reducible rfl)
            (try simp only [Act.put, List.setIfInBounds_toArray, List.set_cons_zero, List.set_cons_succ, List.getElem_toArray, List.getElem_cons_succ, List.getElem_cons_zero])
            refine wpAnyH_done (by kernel_rfl) ?_ _
            go_wp2
            go_roundg (n2 - (i + 1))
            case measure => omega
            case rel => exact ⟨i + 1, by go_num, by omega, by omega, BZ⟩
end Go.Proofs.Ytgcmljnjfghagaa.Tm
