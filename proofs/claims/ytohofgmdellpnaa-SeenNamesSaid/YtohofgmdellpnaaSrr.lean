/- Seen: the document's Has, Put, Below, First, Same. -/
import Derived.Test.YtohofgmdellpnaaSrq
namespace Go.Proofs.Ytohofgmdellpnaa.Seen
open Go.RowKit Go.Shelf Go.Lib

set_option maxHeartbeats 3200000 in
theorem rhas_any {w : World} {B n c : Nat} {A : Option Addr} {l : List Int} (h : Gs w B A n c 1 (cellsI l)) (hB : B ≤ w.heap.size) (x : Int) :
    Calls Try.prog 14 #[.slice A n c, .int .i64 x] w fun e w' => e = .returned (.tuple #[.bool (haA l x), .int .i64 (fiE l x)]) ∧ Hid (Below w.heap.size w w') := by
  have C := hid (rcheck_any h hB)
  have H := hid (h.mono hB)
  clear h hB
  by_cases h0 : schk l = 0
  · rw [h0] at C
    by_cases h1 : NOk x
    · have hd : decide (NOk x) = true := decide_eq_true h1
      have hf : fiE l x = 0 := fiE_zero.2 ⟨schk_zero.1 h0, h1⟩
      have ha : haA l x = decide (x ∈ l) := by unfold haA; simp [hf]
      rw [ha, hf]
      clear h0 h1 hf ha
      go_enter Try.func14, Try.ntmps14
      go_wp2_with fail
      refine C.out.mono ?_
      rintro e w1 ⟨rfl, hb⟩
      go_wp2_with fail
      refine (may_any _ _).mono ?_
      rintro e w2 ⟨rfl, rfl⟩
      go_wp2_with fail
      refine (in_any (H.out.below hb.out) _).mono ?_
      rintro e w2 ⟨rfl, rfl⟩
      go_wp2
      go_ret2
      exact ⟨rfl, hb⟩
    · have hd : decide (NOk x) = false := decide_eq_false h1
      have hf : fiE l x = 2 := by unfold fiE; rw [if_neg (by simp [h0]), if_neg h1]
      have ha : haA l x = false := by unfold haA; rw [hf]; rfl
      rw [ha, hf]
      clear h0 h1 hf ha
      go_enter Try.func14, Try.ntmps14
      go_wp2_with fail
      refine C.out.mono ?_
      rintro e w1 ⟨rfl, hb⟩
      go_wp2_with fail
      refine (may_any _ _).mono ?_
      rintro e w2 ⟨rfl, rfl⟩
      go_wp2
      go_ret2
      exact ⟨rfl, hb⟩
  · have hf : fiE l x = schk l := by unfold fiE; rw [if_pos h0]
    have ha : haA l x = false := by unfold haA; rw [hf]; simp [h0]
    rw [ha, hf]
    clear hf ha
    generalize schk l = q at h0 C ⊢
    go_enter Try.func14, Try.ntmps14
    go_wp2_with fail
    refine C.out.mono ?_
    rintro e w1 ⟨rfl, hb⟩
    go_wp2
    go_ret2
    exact ⟨rfl, hb⟩

set_option maxHeartbeats 3200000 in
set_option maxRecDepth 100000 in
theorem rput_any {w : World} {B n c : Nat} {A : Option Addr} {l : List Int} (h : Gs w B A n c 1 (cellsI l)) (hB : B ≤ w.heap.size) (x : Int) :
    Calls Try.prog 15 #[.slice A n c, .int .i64 x] w fun e w' => ∃ v, e = .returned (.tuple #[v, .int .i64 (ptE l x)]) ∧ Hid (Gi w' w.heap.size v (ptL l x) ∧ Below w.heap.size w w') := by
  have C := hid (rcheck_any h hB)
  have H := hid (h.mono hB)
  have hl := hid h.ilen
  clear h hB
  by_cases h0 : schk l = 0
  · rw [h0] at C
    have hs : l.length ≤ 4096 := (schk_zero.1 h0).1
    have hnn : n ≤ 4096 := by rw [← hl.out]; exact hs
    clear hs
    by_cases h1 : NOk x
    · have hd : decide (NOk x) = true := decide_eq_true h1
      have hf : fiE l x = 0 := fiE_zero.2 ⟨schk_zero.1 h0, h1⟩
      by_cases h2 : x ∈ l
      · have hi : decide (x ∈ l) = true := decide_eq_true h2
        have he : ptE l x = 12 := by unfold ptE; rw [if_neg (by simp [hf]), if_pos h2]
        have hq : ptL l x = [] := by unfold ptL; rw [he]; rfl
        rw [he, hq]
        clear h0 h1 h2 hf he hq
        go_enter Try.func15, Try.ntmps15
        go_wp2_with fail
        refine C.out.mono ?_
        rintro e w1 ⟨rfl, hb⟩
        go_wp2_with fail
        refine (may_any _ _).mono ?_
        rintro e w2 ⟨rfl, rfl⟩
        go_wp2_with fail
        refine (in_any (H.out.below hb.out) _).mono ?_
        rintro e w2 ⟨rfl, rfl⟩
        go_wp2
        go_ret2
        exact ⟨_, rfl, hid ⟨Gi.nil _ _, hb.out⟩⟩
      · have hi : decide (x ∈ l) = false := decide_eq_false h2
        by_cases h3 : 4096 ≤ n
        · have h3z : (n : Int) ≥ 4096 := by omega
          have he : ptE l x = 9 := by unfold ptE; rw [if_neg (by simp [hf]), if_neg h2, if_pos (by rw [hl.out]; exact h3)]
          have hq : ptL l x = [] := by unfold ptL; rw [he]; rfl
          rw [he, hq]
          clear h0 h1 h2 hf he hq
          go_enter Try.func15, Try.ntmps15
          go_wp2_with fail
          refine C.out.mono ?_
          rintro e w1 ⟨rfl, hb⟩
          go_wp2_with fail
          refine (may_any _ _).mono ?_
          rintro e w2 ⟨rfl, rfl⟩
          go_wp2_with fail
          refine (in_any (H.out.below hb.out) _).mono ?_
          rintro e w2 ⟨rfl, rfl⟩
          go_wp2
          go_ret2
          exact ⟨_, rfl, hid ⟨Gi.nil _ _, hb.out⟩⟩
        · have h3z : ¬ (n : Int) ≥ 4096 := by omega
          have he : ptE l x = 0 := by unfold ptE; rw [if_neg (by simp [hf]), if_neg h2, if_neg (by rw [hl.out]; exact h3)]
          have hq : ptL l x = insN l x := by unfold ptL; rw [he]; rfl
          rw [he, hq]
          clear h0 h1 h2 hf he hq
          go_enter Try.func15, Try.ntmps15
          go_wp2_with fail
          refine C.out.mono ?_
          rintro e w1 ⟨rfl, hb⟩
          go_wp2_with fail
          refine (may_any _ _).mono ?_
          rintro e w2 ⟨rfl, rfl⟩
          go_wp2_with fail
          refine (in_any (H.out.below hb.out) _).mono ?_
          rintro e w2 ⟨rfl, rfl⟩
          go_wp2_with fail
          refine (with_any (H.out.below hb.out) hb.out.size (by omega) _).mono ?_
          rintro e w3 ⟨v, rfl, hb3⟩
          go_wp2
          go_ret2
          exact ⟨_, rfl, hid ⟨hb3.out.1.mono hb.out.size, hb.out.trans (hb3.out.2.mono hb.out.size)⟩⟩
    · have hd : decide (NOk x) = false := decide_eq_false h1
      have hf : fiE l x = 2 := by unfold fiE; rw [if_neg (by simp [h0]), if_neg h1]
      have he : ptE l x = 2 := by unfold ptE; rw [hf, if_pos (by decide)]
      have hq : ptL l x = [] := by unfold ptL; rw [he]; rfl
      rw [he, hq]
      clear h0 h1 hf he hq
      go_enter Try.func15, Try.ntmps15
      go_wp2_with fail
      refine C.out.mono ?_
      rintro e w1 ⟨rfl, hb⟩
      go_wp2_with fail
      refine (may_any _ _).mono ?_
      rintro e w2 ⟨rfl, rfl⟩
      go_wp2
      go_ret2
      exact ⟨_, rfl, hid ⟨Gi.nil _ _, hb.out⟩⟩
  · have hf : fiE l x = schk l := by unfold fiE; rw [if_pos h0]
    have he : ptE l x = schk l := by unfold ptE; rw [hf, if_pos h0]
    have hq : ptL l x = [] := by unfold ptL; rw [he, if_neg h0]
    rw [he, hq]
    clear hf he hq
    generalize schk l = q at h0 C ⊢
    go_enter Try.func15, Try.ntmps15
    go_wp2_with fail
    refine C.out.mono ?_
    rintro e w1 ⟨rfl, hb⟩
    go_wp2
    go_ret2
    exact ⟨_, rfl, hid ⟨Gi.nil _ _, hb.out⟩⟩

theorem lowN_snoc (l : List Int) (x y : Int) : lowN (l ++ [y]) x = lowN l x + (if y < x then 1 else 0) := by
  induction l with
  | nil => simp [lowN]
  | cons z l ih => simp only [List.cons_append, lowN, ih]; omega

set_option maxHeartbeats 3200000 in
set_option maxRecDepth 100000 in
theorem rbelow_any {w : World} {B n c : Nat} {A : Option Addr} {l : List Int} (h : Gs w B A n c 1 (cellsI l)) (hB : B ≤ w.heap.size) (x : Int) :
    Calls Try.prog 17 #[.slice A n c, .int .i64 x] w fun e w' => e = .returned (.tuple #[.int .i64 (beA l x : Nat), .int .i64 (fiE l x)]) ∧ Hid (Below w.heap.size w w') := by
  have C := hid (rcheck_any h hB)
  have H := hid (h.mono hB)
  have hl := hid h.ilen
  have hcap := h.cap
  clear h hB
  by_cases h0 : schk l = 0
  · rw [h0] at C
    have hs : l.length ≤ 4096 := (schk_zero.1 h0).1
    have hnn : n ≤ 4096 := by rw [← hl.out]; exact hs
    clear hs
    by_cases h1 : NOk x
    · have hd : decide (NOk x) = true := decide_eq_true h1
      have hf : fiE l x = 0 := fiE_zero.2 ⟨schk_zero.1 h0, h1⟩
      have ha : beA l x = lowN l x := by unfold beA; rw [if_pos hf]
      rw [ha, hf]
      clear h0 h1 hf ha
      go_enter Try.func17, Try.ntmps17
      go_wp2_with fail
      refine C.out.mono ?_
      rintro e w1 ⟨rfl, hb⟩
      go_wp2_with fail
      refine (may_any _ _).mono ?_
      rintro e w2 ⟨rfl, rfl⟩
      go_wp2_with fail
      go_loopg [7, 8] n (fun gg s7 s8 wr => ∃ (kk q : Nat), kk ≤ n ∧ n - kk ≤ gg ∧ s8 = .int .i64 kk ∧ s7 = .int .i64 q ∧ q ≤ kk ∧ wr = w2 ∧ Hid (q = lowN (l.take kk) x))
      case atStart => exact ⟨0, 0, Nat.zero_le _, by omega, rfl, rfl, Nat.le_refl _, rfl, hid rfl⟩
      case round =>
        obtain ⟨kk, q, hkk, hg, rfl, rfl, hq, rfl, HQ⟩ := hrel
        by_cases hlt : kk < n
        · have hltz : (kk : Int) < (n : Int) := by omega
          obtain ⟨y, hy⟩ := H.out.iget hlt
          obtain ⟨b, off, rfl, _, hc⟩ := (H.out.below hb.out).iat (by omega)
          have c1 := hc kk y hy
          have ht := gi_take hy
          have HN := hid (show lowN (l.take (kk + 1)) x = lowN (l.take kk) x + (if y < x then 1 else 0) by rw [ht, lowN_snoc])
          clear hc hy ht
          by_cases hyx : y < x
          · have HY := hid hyx
            go_wp2
            go_roundg (n - (kk + 1))
            case measure => omega
            case rel => exact ⟨kk + 1, q + 1, by omega, by omega, by go_num, by go_num, by omega, rfl, hid (by rw [HN.out, if_pos HY.out, HQ.out])⟩
          · have HY := hid (show ¬ y < x from hyx)
            have HZ := hid (show lowN (l.take (kk + 1)) x = lowN (l.take kk) x by rw [HN.out, if_neg hyx]; rfl)
            go_wp2
            go_roundg (n - (kk + 1))
            case measure => omega
            case rel => exact ⟨kk + 1, q, by omega, by omega, by go_num, rfl, by omega, rfl, hid (by rw [HZ.out, HQ.out])⟩
        · have hltz : ¬ (kk : Int) < (n : Int) := by omega
          obtain rfl : kk = n := by omega
          go_wp2
          go_ret2
          refine ⟨?_, hb⟩
          rw [HQ.out, List.take_of_length_le (by rw [hl.out]; exact Nat.le_refl _)]
          rfl
    · have hd : decide (NOk x) = false := decide_eq_false h1
      have hf : fiE l x = 2 := by unfold fiE; rw [if_neg (by simp [h0]), if_neg h1]
      have ha : beA l x = 0 := by unfold beA; rw [hf]; rfl
      rw [ha, hf]
      clear h0 h1 hf ha
      go_enter Try.func17, Try.ntmps17
      go_wp2_with fail
      refine C.out.mono ?_
      rintro e w1 ⟨rfl, hb⟩
      go_wp2_with fail
      refine (may_any _ _).mono ?_
      rintro e w2 ⟨rfl, rfl⟩
      go_wp2
      go_ret2
      exact ⟨rfl, hb⟩
  · have hf : fiE l x = schk l := by unfold fiE; rw [if_pos h0]
    have ha : beA l x = 0 := by unfold beA; rw [hf]; simp [h0]
    rw [ha, hf]
    clear hf ha
    generalize schk l = q at h0 C ⊢
    go_enter Try.func17, Try.ntmps17
    go_wp2_with fail
    refine C.out.mono ?_
    rintro e w1 ⟨rfl, hb⟩
    go_wp2
    go_ret2
    exact ⟨rfl, hb⟩

theorem fstN_drop_hit {l : List Int} {k : Nat} (h : l[k]? = some ((k : Nat) : Int)) : fstN (l.drop k) k = fstN (l.drop (k + 1)) (k + 1) := by
  obtain ⟨hk, he⟩ := List.getElem?_eq_some_iff.1 h
  rw [List.drop_eq_getElem_cons hk]
  conv => lhs; unfold fstN
  rw [if_pos he]
theorem fstN_drop_miss {l : List Int} {k : Nat} {x : Int} (h : l[k]? = some x) (hx : x ≠ (k : Int)) : fstN (l.drop k) k = k := by
  obtain ⟨hk, he⟩ := List.getElem?_eq_some_iff.1 h
  rw [List.drop_eq_getElem_cons hk]
  unfold fstN
  rw [if_neg (by rw [he]; exact hx)]
theorem fstN_drop_end {l : List Int} {k : Nat} (h : l.length ≤ k) : fstN (l.drop k) k = k := by rw [List.drop_of_length_le h]; rfl

set_option maxHeartbeats 3200000 in
set_option maxRecDepth 100000 in
theorem rfirst_any {w : World} {B n c : Nat} {A : Option Addr} {l : List Int} (h : Gs w B A n c 1 (cellsI l)) (hB : B ≤ w.heap.size) :
    Calls Try.prog 18 #[.slice A n c] w fun e w' => e = .returned (.tuple #[.int .i64 (fsA l : Nat), .int .i64 (schk l)]) ∧ Hid (Below w.heap.size w w') := by
  have C := hid (rcheck_any h hB)
  have H := hid (h.mono hB)
  have hl := hid h.ilen
  have hcap := h.cap
  clear h hB
  by_cases h0 : schk l = 0
  · rw [h0] at C ⊢
    have hs : l.length ≤ 4096 := (schk_zero.1 h0).1
    have hnn : n ≤ 4096 := by rw [← hl.out]; exact hs
    clear hs
    have ha : fsA l = fstN l 0 := by unfold fsA; rw [if_pos h0]
    rw [ha]
    clear h0 ha
    go_enter Try.func18, Try.ntmps18
    go_wp2_with fail
    refine C.out.mono ?_
    rintro e w1 ⟨rfl, hb⟩
    go_wp2_with fail
    go_loopg [5] n (fun gg s5 wr => ∃ (kk : Nat), kk ≤ n ∧ n - kk ≤ gg ∧ s5 = .int .i64 kk ∧ Hid (Below w.heap.size w wr) ∧ Hid (fstN l 0 = fstN (l.drop kk) kk))
    case atStart => exact ⟨0, Nat.zero_le _, by omega, rfl, hb, hid rfl⟩
    case round =>
      obtain ⟨kk, hkk, hg, rfl, BW, HQ⟩ := hrel
      by_cases hlt : kk < n
      · have hltz : (kk : Int) < (n : Int) := by omega
        obtain ⟨y, hy⟩ := H.out.iget hlt
        obtain ⟨b, off, rfl, _, hc⟩ := (H.out.below BW.out).iat (by omega)
        have c1 := hc kk y hy
        have Hy := hid hy
        clear hc hy
        by_cases hyx : y = (kk : Int)
        · have HZ := hid (HQ.out.trans (fstN_drop_hit (by rw [Hy.out, hyx])))
          subst hyx
          go_wp2
          go_roundg (n - (kk + 1))
          case measure => omega
          case rel => exact ⟨kk + 1, by omega, by omega, by go_num, BW, HZ⟩
        · have HZ := hid (HQ.out.trans (fstN_drop_miss Hy.out hyx))
          go_wp2
          go_ret2
          exact ⟨by rw [HZ.out]; rfl, BW⟩
      · have hltz : ¬ (kk : Int) < (n : Int) := by omega
        obtain rfl : kk = n := by omega
        have HZ := hid (HQ.out.trans (fstN_drop_end (by rw [hl.out]; exact Nat.le_refl _)))
        go_wp2
        go_ret2
        exact ⟨by rw [HZ.out]; rfl, BW⟩
  · have ha : fsA l = 0 := by unfold fsA; rw [if_neg h0]
    rw [ha]
    clear ha
    generalize schk l = q at h0 C ⊢
    go_enter Try.func18, Try.ntmps18
    go_wp2_with fail
    refine C.out.mono ?_
    rintro e w1 ⟨rfl, hb⟩
    go_wp2
    go_ret2
    exact ⟨rfl, hb⟩

theorem decI_ne {l m : List Int} {k : Nat} {d e : Int} (h1 : l[k]? = some d) (h2 : m[k]? = some e) (h : d ≠ e) : decide (l = m) = false := by
  rw [decide_eq_false_iff_not]
  intro hl
  rw [hl, h2] at h1
  injection h1 with h1
  exact h h1.symm

set_option maxHeartbeats 3200000 in
set_option maxRecDepth 100000 in
theorem same_any {w : World} {B C n c m d : Nat} {A D : Option Addr} {l r : List Int} (h : Gs w B A n c 1 (cellsI l)) (k : Gs w C D m d 1 (cellsI r)) (hB : B ≤ w.heap.size) (hC : C ≤ w.heap.size) :
    Calls Try.prog 19 #[.slice A n c, .slice D m d] w fun e w' => e = .returned (.bool (decide (l = r))) ∧ Hid (Below w.heap.size w w') := by
  have H := hid (h.mono hB)
  have K := hid (k.mono hC)
  have HL := hid h.ilen
  have HR := hid k.ilen
  have hm := h.max
  have hcap := h.cap
  have hcap2 := k.cap
  clear h k
  by_cases hnm : n = m
  case neg =>
    have hne : ¬ (n : Int) = (m : Int) := by omega
    have hd : decide (l = r) = false := by
      rw [decide_eq_false_iff_not]
      intro e
      have := HL.out
      rw [e, HR.out] at this
      omega
    rw [hd]
    go_enter Try.func19, Try.ntmps19
    go_wp2
    go_ret
    exact ⟨rfl, hid (Below.refl _ _)⟩
  subst hnm
  go_enter Try.func19, Try.ntmps19
  go_wp2
  go_loopg [5] n (fun gg s5 wr => ∃ kk : Nat, kk ≤ n ∧ n - kk ≤ gg ∧ s5 = .int .i64 kk ∧ Hid (Below w.heap.size w wr) ∧ Hid (∀ j, j < kk → l[j]? = r[j]?))
  case atStart => exact ⟨0, Nat.zero_le _, by omega, rfl, hid (Below.refl _ w), hid (fun j hj => absurd hj (Nat.not_lt_zero _))⟩
  case round =>
    obtain ⟨kk, hkk, hg, rfl, BW, HA⟩ := hrel
    by_cases hlt : kk < n
    · have hltz : (kk : Int) < (n : Int) := by omega
      obtain ⟨x, hx⟩ := H.out.iget hlt
      obtain ⟨y, hy⟩ := K.out.iget hlt
      obtain ⟨b, off, rfl, _, hc⟩ := (H.out.below BW.out).iat (by omega)
      obtain ⟨b', off', rfl, _, hc'⟩ := (K.out.below BW.out).iat (by omega)
      have c1 := hc kk x hx
      have c3 := hc' kk y hy
      have Hx := hid hx
      have Hy := hid hy
      clear hc hc' hx hy
      have mixed : Try.prog.follows .mixedOrders = true := by kernel_rfl
      by_cases hxy : x = y
      · subst hxy
        go_wp2_with fail
        go_quiet_o (fail)
        go_wp2
        go_roundg (n - (kk + 1))
        case measure => omega
        case rel =>
          refine ⟨kk + 1, by omega, by omega, by go_num, hid (below_drewN BW.out _), hid (fun j hj => ?_)⟩
          by_cases hjk : j = kk
          · subst hjk
            rw [Hx.out, Hy.out]
          · exact HA.out j (by omega)
      · have HX := hid hxy
        go_wp2_with fail
        go_quiet_o (fail)
        go_wp2
        go_ret
        refine ⟨?_, hid (below_drewN BW.out _)⟩
        rw [decI_ne Hx.out Hy.out HX.out]
        rfl
    · have hltz : ¬ (kk : Int) < (n : Int) := by omega
      obtain rfl : kk = n := by omega
      go_wp2
      go_ret
      refine ⟨?_, BW⟩
      have : l = r := List.ext_getElem? fun j => by
        rcases Nat.lt_or_ge j kk with hj | hj
        · exact HA.out j hj
        · rw [List.getElem?_eq_none (by rw [HL.out]; exact hj), List.getElem?_eq_none (by rw [HR.out]; exact hj)]
      rw [decide_eq_true this]
      rfl
end Go.Proofs.Ytohofgmdellpnaa.Seen
