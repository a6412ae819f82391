/- The document's Sorted. -/
import Derived.Test.YtdemhghflanncaaKapp
import Derived.Deep.RegionHeld3
namespace Go.Proofs.Ytdemhghflanncaa
open Go.RowKit Go.Shelf Go.Lib

theorem pos_eq {d : De} {r : List De} {j : Nat} (hn : ∀ (t : Nat) (e : De), t < j → r[t]? = some e → fr d e = false) (h : j = r.length ∨ ∃ e, r[j]? = some e ∧ fr d e = true) : pos d r = j := by
  rcases h with rfl | ⟨e, he, hf⟩
  · unfold pos
    rw [List.findIdx_eq_length]
    intro x hx
    obtain ⟨t, ht⟩ := List.mem_iff_getElem?.1 hx
    exact hn t x (List.getElem?_eq_some_iff.1 ht).1 ht
  · obtain ⟨hk, rfl⟩ := List.getElem?_eq_some_iff.1 he
    unfold pos
    rw [List.findIdx_eq hk]
    exact ⟨hf, fun t ht => by
      have := hn t _ ht (List.getElem?_eq_getElem (by omega))
      simpa using this⟩

theorem Ds.first {w : World} {B n c : Nat} {A : Option Addr} {l : List De} (h : Ds w B A n c l) {p : Nat} (hp : p ≤ n) : Ds w B A p c (l.take p) := by
  have hl := h.len
  have hcap := h.cap
  refine ⟨by rw [List.length_take]; omega, by omega, Nat.le_trans (by omega) h.max, fun hA => ?_, fun h0 => ?_⟩
  · have := h.nil hA
    omega
  · obtain ⟨b, off, rfl, hB, hc⟩ := h.at_ (by omega)
    refine ⟨b, off, rfl, hB, fun j d hj => hc j d ?_⟩
    rw [List.getElem?_take] at hj
    split at hj
    · exact hj
    · cases hj
theorem Ds.drop {w : World} {B n c g : Nat} {l : List De} (h : Ds w B (some ⟨g, 0, none⟩) n c l) {p : Nat} (hp : p ≤ n) : Ds w B (some ⟨g, p * 2, none⟩) (n - p) (c - p) (l.drop p) := by
  have hl := h.len
  have hcap := h.cap
  refine ⟨by rw [List.length_drop]; omega, by omega, Nat.le_trans (by omega) h.max, fun hA => (by cases hA), fun h0 => ?_⟩
  obtain ⟨b, off, e, hB, hc⟩ := h.at_ (by omega)
  injection e with e
  injection e with e1 e2
  subst e1
  subst e2
  refine ⟨g, p * 2, rfl, hB, fun j d hj => ?_⟩
  rw [List.getElem?_drop] at hj
  have := hc _ d hj
  rw [show 0 + (p + j) * 2 = p * 2 + j * 2 by omega] at this
  exact this
theorem Ds.none' (w : World) (B c : Nat) (a : Addr) : Ds w B (some a) 0 c [] := ⟨rfl, Nat.zero_le _, by omega, fun e => (by cases e), fun h => absurd h (by omega)⟩
theorem new_row {w : World} {o : Obj} {N : Nat} (h : w.heap.size = N) : (w.alloc o).heap[N]? = some o := by
  subst h
  exact heap_alloc_new w o
theorem od_at {X : World} {B N : Nat} (h : X.heap[N]? = some (.cells #[] 23 (0, 0))) (hB : B ≤ N) : Od X B (.slice (some ⟨N, 0, none⟩) 0 0) [] :=
  ⟨⟨by simp [cellsD], .inr ⟨N, 0, #[], rfl, hB, h, Nat.le_refl _, by unfold maxLen; omega, rfl, rfl⟩⟩, by simp⟩
theorem ds_at {X : World} {N : Nat} {d1 d2 : Int} (h : X.heap[N]? = some (.cells #[.int .i64 d1, .int .i64 d2] 23 (0, 0))) : Ds X X.heap.size (some ⟨N, 0, none⟩) 1 1 [(d1, d2)] :=
  ⟨rfl, Nat.le_refl _, by omega, fun e => (by cases e), fun _ => ⟨N, 0, rfl, lt_of_heap h, fun j d hj => by
    match j, hj with
    | 0, hj =>
      obtain rfl : (d1, d2) = d := by simpa using hj
      rw [cell_of_row X N _ _ _ (0, 0) h, cell_of_row X N _ _ _ (0, 0) h]
      exact ⟨rfl, rfl⟩
    | j + 1, hj => simp at hj⟩⟩
theorem own_new {B N : Nat} (h : B ≤ N) : ∀ k, (Value.slice (some ⟨N, 0, none⟩) 0 0).ownBlock = some k → B ≤ k := fun k hk => by
  obtain rfl : N = k := by simpa [Value.ownBlock] using hk
  exact h
/-- A change of a list that lies from block B on turns nothing below it. -/
theorem Turned.below {w w' : World} {B : Nat} {v v' : Value} {l : List De} (h : Turned w w' B v v' l) (hv : ∀ k, v.ownBlock = some k → B ≤ k) (hB : B ≤ w.heap.size) : Below B w w' :=
  ⟨h.grown.os, h.grown.tape, h.grown.output, h.grown.size, fun k hk => h.grown.block k (by omega) (fun e => by have := hv k e.symm; omega)⟩

set_option maxHeartbeats 6400000 in
set_option maxRecDepth 100000 in
theorem sorted_any {w : World} {B n c : Nat} {A : Option Addr} {l : List De} (h : Ds w B A n c l) (hB : B ≤ w.heap.size) (hn : n ≤ 1000) :
    Calls Try.prog 39 #[.slice A n c] w fun e w' => ∃ v, e = .returned v ∧ Hid (Od w' w.heap.size v (srt l) ∧ Below w.heap.size w w') := by
  have mixed : Try.prog.follows .mixedOrders = true := by kernel_rfl
  have H := hid (h.mono hB)
  have hm := h.max
  have hcap := h.cap
  have HL := hid h.len
  clear h
  go_enter Try.func39, Try.ntmps39
  go_wp2
  go_loopg [3, 4, 5] n (fun gg s3 s4 _ wr => ∃ kk : Nat, kk ≤ n ∧ n - kk ≤ gg ∧ s4 = .int .i64 kk ∧ Hid (Od wr w.heap.size s3 (srt (l.take kk))) ∧ Hid (Below w.heap.size w wr))
  case atStart => exact ⟨0, Nat.zero_le _, by omega, rfl, hid (Od.nil w _), hid (Below.refl _ w)⟩
  case round =>
    obtain ⟨kk, hkk, hg, rfl, HO, BW⟩ := hrel
    obtain ⟨A3, c3, rfl, hD3, hcm3, _⟩ := HO.out.form
    obtain ⟨r, hr⟩ : ∃ r, r = srt (l.take kk) := ⟨_, rfl⟩
    have HRL : Hid (r.length = kk) := hid (by rw [hr, srt_length, List.length_take, HL.out]; omega)
    rw [← hr] at HO hD3
    have HR := hid hr
    rw [← hr]
    clear hr
    obtain ⟨m, hmm⟩ : ∃ m, m = r.length := ⟨_, rfl⟩
    have HM := hid hmm
    have hm1 : m ≤ 1000 := by have := HRL.out; omega
    rw [← hmm] at HO hD3 ⊢
    have H3 := hid hD3
    have hcap3 := hD3.cap
    have HC3 := hid hcm3
    clear hmm hD3 hcm3
    by_cases hlt : kk < n
    · have hltz : (kk : Int) < (n : Int) := by omega
      obtain ⟨d, hd⟩ := H.out.get hlt
      have Hd := hid hd
      clear hd
      go_upto_block 2 with fail
      go_cut [5] (fun s5 wx => s5 = .int .i64 (pos d r) ∧ Hid (Below wr.heap.size wr wx))
      case first =>
        obtain ⟨b, off, rfl, hbB, hc⟩ := (H.out.below BW.out).at_ (by omega)
        obtain ⟨c1, c2⟩ := hc kk d Hd.out
        clear hc
        have HC := hid (fun e W => ahead_any d e W)
        obtain ⟨d1, d2⟩ := d
        change wr.cell? ⟨b, off + kk * 2, none⟩ = some (.int .i64 d1) at c1
        change wr.cell? ⟨b, off + kk * 2 + 1, none⟩ = some (.int .i64 d2) at c2
        have HC1 := hid c1
        have HC2 := hid c2
        have hbw : b < wr.heap.size := Nat.lt_of_lt_of_le hbB BW.out.size
        clear c1 c2
        go_wp2_with fail
        go_loopg [5] m (fun gg s5 wx => ∃ j : Nat, j ≤ m ∧ m - j ≤ gg ∧ s5 = .int .i64 j ∧ Hid (Below wr.heap.size wr wx) ∧ Hid (∀ t e, t < j → r[t]? = some e → fr (d1, d2) e = false))
        case atStart => exact ⟨0, Nat.zero_le _, by omega, rfl, hid (Below.refl _ wr), hid (fun t _ ht => absurd ht (Nat.not_lt_zero _))⟩
        case round =>
          obtain ⟨j, hj, hg2, rfl, BX, HA⟩ := hrel
          by_cases hjm : j < m
          · have hjz : (j : Int) < (m : Int) := by omega
            obtain ⟨e, he⟩ := H3.out.get hjm
            obtain ⟨b3, off3, rfl, hb3, hc3⟩ := (H3.out.below BX.out).at_ (by omega)
            obtain ⟨c3', c4⟩ := hc3 j e he
            have He := hid he
            obtain ⟨e1, e2⟩ := e
            change wr.cell? ⟨b3, off3 + j * 2, none⟩ = some (.int .i64 e1) at c3'
            change wr.cell? ⟨b3, off3 + j * 2 + 1, none⟩ = some (.int .i64 e2) at c4
            have c1 : wr.cell? ⟨b, off + kk * 2, none⟩ = some (.int .i64 d1) := (BX.out.cell (p := ⟨b, off + kk * 2, none⟩) hbw).trans HC1.out
            have c2 : wr.cell? ⟨b, off + kk * 2 + 1, none⟩ = some (.int .i64 d2) := (BX.out.cell (p := ⟨b, off + kk * 2 + 1, none⟩) hbw).trans HC2.out
            have hd1 : decide ((j : Int) < (m : Int)) = true := decide_eq_true hjz
            have HCC := hid (fun W => HC.out (e1, e2) W)
            have HS := hid BX.out.size
            have hbw2 : b < wr.heap.size := Nat.lt_of_lt_of_le hbw HS.out
            have hb32 : b3 < wr.heap.size := Nat.lt_of_lt_of_le hb3 HS.out
            have CF : Hid (∀ X, Below wr.heap.size wr X → X.cell? ⟨b, off + kk * 2, none⟩ = some (.int .i64 d1) ∧ X.cell? ⟨b, off + kk * 2 + 1, none⟩ = some (.int .i64 d2) ∧ X.cell? ⟨b3, off3 + j * 2, none⟩ = some (.int .i64 e1) ∧ X.cell? ⟨b3, off3 + j * 2 + 1, none⟩ = some (.int .i64 e2)) := hid fun X hb =>
              ⟨(hb.cell (p := ⟨b, off + kk * 2, none⟩) hbw2).trans c1, (hb.cell (p := ⟨b, off + kk * 2 + 1, none⟩) hbw2).trans c2, (hb.cell (p := ⟨b3, off3 + j * 2, none⟩) hb32).trans c3', (hb.cell (p := ⟨b3, off3 + j * 2 + 1, none⟩) hb32).trans c4⟩
            have HBz : Hid (Below wr.heap.size wr wr.drew) := hid (Below.refl wr.heap.size wr).drew
            clear hc3 he HC c1 c2 c3' c4
            cases hq : fr (d1, d2) (e1, e2) with
            | true =>
              have HX : Hid (pos (d1, d2) r = j) := hid (pos_eq HA.out (.inr ⟨_, He.out, hq⟩))
              rw [hq] at HCC
              clear hq
              go_wp2_with fail
              go_region_held3 (fun X => X.cell? ⟨b, off + kk * 2, none⟩ = some (.int .i64 d1) ∧ X.cell? ⟨b, off + kk * 2 + 1, none⟩ = some (.int .i64 d2) ∧ X.cell? ⟨b3, off3 + j * 2, none⟩ = some (.int .i64 e1) ∧ X.cell? ⟨b3, off3 + j * 2 + 1, none⟩ = some (.int .i64 e2))
                (exact CF.out _ HBz.out)
                (first
                | (go_at_call 47
                   refine (HCC.out _).mono ?_
                   rintro e' w' ⟨rfl, hb⟩
                   have HBz := hid (HBz.out.trans (hb.out.mono HBz.out.size))))
              all_goals
                go_wp2
                go_meet
                exact ⟨congrArg (Value.int IntKind.i64) (by rw [HX.out]), hid (BX.out.trans (HBz.out.mono HS.out))⟩
            | false =>
              rw [hq] at HCC
              go_wp2_with fail
              go_region_held3 (fun X => X.cell? ⟨b, off + kk * 2, none⟩ = some (.int .i64 d1) ∧ X.cell? ⟨b, off + kk * 2 + 1, none⟩ = some (.int .i64 d2) ∧ X.cell? ⟨b3, off3 + j * 2, none⟩ = some (.int .i64 e1) ∧ X.cell? ⟨b3, off3 + j * 2 + 1, none⟩ = some (.int .i64 e2))
                (exact CF.out _ HBz.out)
                (first
                | (go_at_call 47
                   refine (HCC.out _).mono ?_
                   rintro e' w' ⟨rfl, hb⟩
                   have HBz := hid (HBz.out.trans (hb.out.mono HBz.out.size))))
              all_goals
                go_wp2
                go_roundg (m - (j + 1))
                case measure => omega
                case rel =>
                  refine ⟨j + 1, by omega, by omega, by go_num, hid (BX.out.trans (HBz.out.mono HS.out)), hid (fun t e ht he => ?_)⟩
                  by_cases htj : t = j
                  · subst htj
                    rw [He.out] at he
                    injection he with he
                    rw [← he]
                    exact hq
                  · exact HA.out t e (by omega) he
          · have hjz : ¬ (j : Int) < (m : Int) := by omega
            obtain rfl : j = m := by omega
            have hd1 : decide ((j : Int) < (j : Int)) = false := decide_eq_false hjz
            have HX : Hid (pos (d1, d2) r = j) := hid (pos_eq HA.out (.inl HM.out))
            clear HC
            go_wp2_with fail
            go_quiet (fail)
            go_wp2
            go_meet
            exact ⟨congrArg (Value.int IntKind.i64) (by rw [HX.out]), hid (below_drewN BX.out _)⟩
      case rest =>
        obtain ⟨rfl, BX⟩ := hcut
        have HPI := hid (ins_pos d r)
        have HPL := hid (pos_le d r)
        generalize hpp : pos d r = p at HPI HPL ⊢
        clear hpp
        have hpm : p ≤ m := by have := HPL.out; have := HM.out; omega
        have BWc := hid (BW.out.trans (BX.out.mono BW.out.size))
        have HOc := hid (HO.out.below BX.out)
        have H3c := hid ((H3.out.below BX.out).mono BX.out.size)
        obtain ⟨b, off, rfl, hbB, hc⟩ := (H.out.below BWc.out).at_ (by omega)
        obtain ⟨c1, c2⟩ := hc kk d Hd.out
        have hbw : b < wc.heap.size := Nat.lt_of_lt_of_le hbB BWc.out.size
        clear hc H3 HO
        have HSW := hid BWc.out.size
        obtain ⟨d1, d2⟩ := d
        change wc.cell? ⟨b, off + kk * 2, none⟩ = some (.int .i64 d1) at c1
        change wc.cell? ⟨b, off + kk * 2 + 1, none⟩ = some (.int .i64 d2) at c2
        have HCl : Hid (∀ X, Below wc.heap.size wc X → X.cell? ⟨b, off + kk * 2, none⟩ = some (.int .i64 d1) ∧ X.cell? ⟨b, off + kk * 2 + 1, none⟩ = some (.int .i64 d2)) := hid fun X hb => ⟨(hb.cell (p := ⟨b, off + kk * 2, none⟩) hbw).trans c1, (hb.cell (p := ⟨b, off + kk * 2 + 1, none⟩) hbw).trans c2⟩
        have HOwn := hid (fun k hk => (own_lt HOc.out k hk).1)
        have HN1 : Hid ((wc.alloc (.cells #[] 23)).drew.heap[wc.heap.size]? = some (.cells #[] 23 (0, 0))) := hid (heap_alloc_new wc _)
        have HN2 : Hid (((wc.alloc (.cells #[] 23)).alloc (.cells #[.int .i64 d1, .int .i64 d2] 23)).drew.heap[wc.heap.size]? = some (.cells #[] 23 (0, 0))) := hid ((Below.heap_alloc _ _ _ (by simp)).trans (heap_alloc_new wc _))
        have HN3 : Hid (((wc.alloc (.cells #[.int .i64 d1, .int .i64 d2] 23)).alloc (.cells #[] 23)).drew.heap[wc.heap.size + 1]? = some (.cells #[] 23 (0, 0))) := hid (new_row (by simp))
        have HM2 : Hid (((wc.alloc (.cells #[] 23)).alloc (.cells #[.int .i64 d1, .int .i64 d2] 23)).drew.heap[wc.heap.size + 1]? = some (.cells #[.int .i64 d1, .int .i64 d2] 23 (0, 0))) := hid (new_row (by simp))
        have HM3 : Hid (((wc.alloc (.cells #[.int .i64 d1, .int .i64 d2] 23)).alloc (.cells #[] 23)).drew.heap[wc.heap.size]? = some (.cells #[.int .i64 d1, .int .i64 d2] 23 (0, 0))) := hid ((Below.heap_alloc _ _ _ (by simp)).trans (heap_alloc_new wc _))
        have HB1 : Hid (Below wc.heap.size wc (wc.alloc (.cells #[] 23)).drew) := hid (((Below.refl _ wc).alloc (Nat.le_refl _) _).drew)
        have HB2 : Hid (Below wc.heap.size wc ((wc.alloc (.cells #[] 23)).alloc (.cells #[.int .i64 d1, .int .i64 d2] 23)).drew) := hid ((((Below.refl _ wc).alloc (Nat.le_refl _) _).alloc (by simp) _).drew)
        have HB3 : Hid (Below wc.heap.size wc ((wc.alloc (.cells #[.int .i64 d1, .int .i64 d2] 23)).alloc (.cells #[] 23)).drew) := hid ((((Below.refl _ wc).alloc (Nat.le_refl _) _).alloc (by simp) _).drew)
        rcases HOc.out.own.2 with ⟨hA, hm0⟩ | ⟨g, cap, cur, hA, hgB, hgg, _⟩
        · injection hA with hA1 hA2 hA3
          subst hA1
          obtain rfl : m = 0 := HM.out.trans hm0
          obtain rfl : c3 = 0 := hA3
          obtain rfl : p = 0 := by omega
          have hr0 : r = [] := List.length_eq_zero_iff.1 hm0
          have HS1 : Hid (∀ X, Below wc.heap.size wc X → Ds X wc.heap.size none 0 0 (r.take 0)) := hid fun X _ => by rw [hr0]; exact Ds.nil' _ _
          have HS3 : Hid (∀ X, Below wc.heap.size wc X → Ds X wc.heap.size none 0 0 (r.drop 0)) := hid fun X _ => by rw [hr0]; exact Ds.nil' _ _
          clear hr0 hA2 hm0
          go_wp2_with fail
          go_region_law (first
            | (refine step_appD rfl (.tmp 30) (.tmp 33) rfl rfl rfl (v := .slice (some ⟨wc.heap.size, 0, none⟩) 0 0) (B := wc.heap.size) (C := wc.heap.size) (l := []) (r := r.take 0) (by first | with_reducible exact od_at HN1.out (Nat.le_refl _) | with_reducible exact od_at HN2.out (Nat.le_refl _)) (by first | with_reducible exact HS1.out _ HB1.out | with_reducible exact HS1.out _ HB2.out) (by simp only [List.length_nil]; omega) (by first | with_reducible exact HB1.out.size | with_reducible exact HB2.out.size) ?_
               intro v34 w34 HT1
               have HO34 : Hid (Od w34 wc.heap.size v34 (r.take 0)) := hid HT1.out.own
               have HBw : Hid (Below wc.heap.size wc w34) := hid (by first | with_reducible exact HB1.out.trans (HT1.out.below (own_new (Nat.le_refl _)) HB1.out.size) | with_reducible exact HB2.out.trans (HT1.out.below (own_new (Nat.le_refl _)) HB2.out.size))
               have c1 := (HCl.out _ HBw.out).1
               have c2 := (HCl.out _ HBw.out).2
               try (have HMx := hid ((HT1.out.grown.block (wc.heap.size + 1) (lt_of_heap HM2.out) (by simp [Value.ownBlock])).trans HM2.out)))
            | (refine step_appD rfl (.tmp 30) (.tmp 33) rfl rfl rfl (v := .slice (some ⟨wc.heap.size + 1, 0, none⟩) 0 0) (B := wc.heap.size) (C := wc.heap.size) (l := []) (r := r.take 0) (by first | with_reducible exact od_at HN3.out (Nat.le_succ _)) (by first | with_reducible exact HS1.out _ HB3.out) (by simp only [List.length_nil]; omega) (by first | with_reducible exact HB3.out.size) ?_
               intro v34 w34 HT1
               have HO34 : Hid (Od w34 wc.heap.size v34 (r.take 0)) := hid HT1.out.own
               have HBw : Hid (Below wc.heap.size wc w34) := hid (by first | with_reducible exact HB3.out.trans (HT1.out.below (own_new (Nat.le_succ _)) HB3.out.size))
               have c1 := (HCl.out _ HBw.out).1
               have c2 := (HCl.out _ HBw.out).2
               try (have HMx := hid ((HT1.out.grown.block wc.heap.size (lt_of_heap HM3.out) (by simp [Value.ownBlock])).trans HM3.out)))
            | (refine step_appD rfl (.tmp 34) (.tmp 39) rfl rfl rfl (v := v34) (B := wc.heap.size) (l := r.take 0) (r := [(d1, d2)]) (by first | with_reducible exact HO34.out | with_reducible exact HO34.out.below ((Below.refl _ _).alloc (Nat.le_refl _) _)) (by first | with_reducible exact ds_at HMx.out | with_reducible exact ds_at (heap_alloc_new w34 _)) (by rw [List.length_take]; omega) (by first | with_reducible exact HBw.out.size | with_reducible exact (HBw.out.alloc HBw.out.size _).size) ?_
               intro v40 w40 HT2
               have HO40 : Hid (Od w40 wc.heap.size v40 (r.take 0 ++ [(d1, d2)])) := hid HT2.out.own
               have HBx : Hid (Below wc.heap.size wc w40) := hid (by first | with_reducible exact HBw.out.trans (HT2.out.below (fun k hk => (own_lt HO34.out k hk).1) HBw.out.size) | with_reducible exact (HBw.out.alloc HBw.out.size _).trans (HT2.out.below (fun k hk => (own_lt HO34.out k hk).1) (HBw.out.alloc HBw.out.size _).size)))
            | (refine step_appD rfl (.tmp 40) (.tmp 43) rfl rfl rfl (v := v40) (B := wc.heap.size) (l := r.take 0 ++ [(d1, d2)]) (r := r.drop 0) HO40.out (HS3.out _ HBx.out) (by rw [List.length_append, List.length_take, List.length_singleton]; omega) HBx.out.size ?_
               intro v44 w44 HT3
               have HO44 : Hid (Od w44 wc.heap.size v44 (ins (d1, d2) r)) := hid (by rw [HPI.out]; have := HT3.out.own; rwa [List.append_assoc] at this)
               have HBy : Hid (Below wc.heap.size wc w44) := hid (HBx.out.trans (HT3.out.below (fun k hk => (own_lt HO40.out k hk).1) HBx.out.size))))
          all_goals
            go_wp2
            go_roundg (n - (kk + 1))
            case measure => omega
            case rel => exact ⟨kk + 1, by omega, by omega, by go_num, hid (by rw [take_snoc Hd.out, srt_snoc, ← HR.out]; exact HO44.out.mono HSW.out), hid (BWc.out.trans (HBy.out.mono HSW.out))⟩
        · injection hA with hA1 hA2 hA3
          subst hA1
          have HS1 : Hid (∀ X, Below wc.heap.size wc X → Ds X wc.heap.size (some ⟨g, 0, none⟩) p c3 (r.take p)) := hid fun X hb => (H3c.out.first hpm).below hb
          have HS3 : Hid (∀ X, Below wc.heap.size wc X → Ds X wc.heap.size (some ⟨g, p * 2, none⟩) (m - p) (c3 - p) (r.drop p)) := hid fun X hb => (H3c.out.drop hpm).below hb
          clear hA2 hA3 hgg
          have hpz : (p : Int) ≤ (m : Int) := by omega
          have hpc3 : p ≤ c3 := by omega
          by_cases hpc : c3 = p
          · obtain rfl : m = p := by omega
            subst hpc
            have hrd : r.drop c3 = [] := List.drop_of_length_le (by rw [← HM.out]; exact Nat.le_refl _)
            clear HS3
            have HS3 : Hid (∀ (X : World) (a : Addr) (q : Nat), Ds X wc.heap.size (some a) 0 q (r.drop c3)) := hid fun X a q => by rw [hrd]; exact Ds.none' _ _ _ _
            clear hrd
            go_wp2_with fail
            go_region_law (first
              | (refine step_appD rfl (.tmp 30) (.tmp 33) rfl rfl rfl (v := .slice (some ⟨wc.heap.size, 0, none⟩) 0 0) (B := wc.heap.size) (C := wc.heap.size) (l := []) (r := r.take c3) (by first | with_reducible exact od_at HN1.out (Nat.le_refl _) | with_reducible exact od_at HN2.out (Nat.le_refl _)) (by first | with_reducible exact HS1.out _ HB1.out | with_reducible exact HS1.out _ HB2.out) (by simp only [List.length_nil]; omega) (by first | with_reducible exact HB1.out.size | with_reducible exact HB2.out.size) ?_
                 intro v34 w34 HT1
                 have HO34 : Hid (Od w34 wc.heap.size v34 (r.take c3)) := hid HT1.out.own
                 have HBw : Hid (Below wc.heap.size wc w34) := hid (by first | with_reducible exact HB1.out.trans (HT1.out.below (own_new (Nat.le_refl _)) HB1.out.size) | with_reducible exact HB2.out.trans (HT1.out.below (own_new (Nat.le_refl _)) HB2.out.size))
                 have c1 := (HCl.out _ HBw.out).1
                 have c2 := (HCl.out _ HBw.out).2
                 try (have HMx := hid ((HT1.out.grown.block (wc.heap.size + 1) (lt_of_heap HM2.out) (by simp [Value.ownBlock])).trans HM2.out)))
              | (refine step_appD rfl (.tmp 30) (.tmp 33) rfl rfl rfl (v := .slice (some ⟨wc.heap.size + 1, 0, none⟩) 0 0) (B := wc.heap.size) (C := wc.heap.size) (l := []) (r := r.take c3) (by first | with_reducible exact od_at HN3.out (Nat.le_succ _)) (by first | with_reducible exact HS1.out _ HB3.out) (by simp only [List.length_nil]; omega) (by first | with_reducible exact HB3.out.size) ?_
                 intro v34 w34 HT1
                 have HO34 : Hid (Od w34 wc.heap.size v34 (r.take c3)) := hid HT1.out.own
                 have HBw : Hid (Below wc.heap.size wc w34) := hid (by first | with_reducible exact HB3.out.trans (HT1.out.below (own_new (Nat.le_succ _)) HB3.out.size))
                 have c1 := (HCl.out _ HBw.out).1
                 have c2 := (HCl.out _ HBw.out).2
                 try (have HMx := hid ((HT1.out.grown.block wc.heap.size (lt_of_heap HM3.out) (by simp [Value.ownBlock])).trans HM3.out)))
              | (refine step_appD rfl (.tmp 34) (.tmp 39) rfl rfl rfl (v := v34) (B := wc.heap.size) (l := r.take c3) (r := [(d1, d2)]) (by first | with_reducible exact HO34.out | with_reducible exact HO34.out.below ((Below.refl _ _).alloc (Nat.le_refl _) _)) (by first | with_reducible exact ds_at HMx.out | with_reducible exact ds_at (heap_alloc_new w34 _)) (by rw [List.length_take]; omega) (by first | with_reducible exact HBw.out.size | with_reducible exact (HBw.out.alloc HBw.out.size _).size) ?_
                 intro v40 w40 HT2
                 have HO40 : Hid (Od w40 wc.heap.size v40 (r.take c3 ++ [(d1, d2)])) := hid HT2.out.own
                 have HBx : Hid (Below wc.heap.size wc w40) := hid (by first | with_reducible exact HBw.out.trans (HT2.out.below (fun k hk => (own_lt HO34.out k hk).1) HBw.out.size) | with_reducible exact (HBw.out.alloc HBw.out.size _).trans (HT2.out.below (fun k hk => (own_lt HO34.out k hk).1) (HBw.out.alloc HBw.out.size _).size)))
              | (refine step_appD rfl (.tmp 40) (.tmp 43) rfl rfl rfl (v := v40) (B := wc.heap.size) (l := r.take c3 ++ [(d1, d2)]) (r := r.drop c3) HO40.out (HS3.out _ _ _) (by rw [List.length_append, List.length_take, List.length_singleton]; omega) HBx.out.size ?_
                 intro v44 w44 HT3
                 have HO44 : Hid (Od w44 wc.heap.size v44 (ins (d1, d2) r)) := hid (by rw [HPI.out]; have := HT3.out.own; rwa [List.append_assoc] at this)
                 have HBy : Hid (Below wc.heap.size wc w44) := hid (HBx.out.trans (HT3.out.below (fun k hk => (own_lt HO40.out k hk).1) HBx.out.size))))
            all_goals
              go_wp2
              go_roundg (n - (kk + 1))
              case measure => omega
              case rel => exact ⟨kk + 1, by omega, by omega, by go_num, hid (by rw [take_snoc Hd.out, srt_snoc, ← HR.out]; exact HO44.out.mono HSW.out), hid (BWc.out.trans (HBy.out.mono HSW.out))⟩
          · go_wp2_with fail
            go_region_law (first
              | (refine step_appD rfl (.tmp 30) (.tmp 33) rfl rfl rfl (v := .slice (some ⟨wc.heap.size, 0, none⟩) 0 0) (B := wc.heap.size) (C := wc.heap.size) (l := []) (r := r.take p) (by first | with_reducible exact od_at HN1.out (Nat.le_refl _) | with_reducible exact od_at HN2.out (Nat.le_refl _)) (by first | with_reducible exact HS1.out _ HB1.out | with_reducible exact HS1.out _ HB2.out) (by simp only [List.length_nil]; omega) (by first | with_reducible exact HB1.out.size | with_reducible exact HB2.out.size) ?_
                 intro v34 w34 HT1
                 have HO34 : Hid (Od w34 wc.heap.size v34 (r.take p)) := hid HT1.out.own
                 have HBw : Hid (Below wc.heap.size wc w34) := hid (by first | with_reducible exact HB1.out.trans (HT1.out.below (own_new (Nat.le_refl _)) HB1.out.size) | with_reducible exact HB2.out.trans (HT1.out.below (own_new (Nat.le_refl _)) HB2.out.size))
                 have c1 := (HCl.out _ HBw.out).1
                 have c2 := (HCl.out _ HBw.out).2
                 try (have HMx := hid ((HT1.out.grown.block (wc.heap.size + 1) (lt_of_heap HM2.out) (by simp [Value.ownBlock])).trans HM2.out)))
              | (refine step_appD rfl (.tmp 30) (.tmp 33) rfl rfl rfl (v := .slice (some ⟨wc.heap.size + 1, 0, none⟩) 0 0) (B := wc.heap.size) (C := wc.heap.size) (l := []) (r := r.take p) (by first | with_reducible exact od_at HN3.out (Nat.le_succ _)) (by first | with_reducible exact HS1.out _ HB3.out) (by simp only [List.length_nil]; omega) (by first | with_reducible exact HB3.out.size) ?_
                 intro v34 w34 HT1
                 have HO34 : Hid (Od w34 wc.heap.size v34 (r.take p)) := hid HT1.out.own
                 have HBw : Hid (Below wc.heap.size wc w34) := hid (by first | with_reducible exact HB3.out.trans (HT1.out.below (own_new (Nat.le_succ _)) HB3.out.size))
                 have c1 := (HCl.out _ HBw.out).1
                 have c2 := (HCl.out _ HBw.out).2
                 try (have HMx := hid ((HT1.out.grown.block wc.heap.size (lt_of_heap HM3.out) (by simp [Value.ownBlock])).trans HM3.out)))
              | (refine step_appD rfl (.tmp 34) (.tmp 39) rfl rfl rfl (v := v34) (B := wc.heap.size) (l := r.take p) (r := [(d1, d2)]) (by first | with_reducible exact HO34.out | with_reducible exact HO34.out.below ((Below.refl _ _).alloc (Nat.le_refl _) _)) (by first | with_reducible exact ds_at HMx.out | with_reducible exact ds_at (heap_alloc_new w34 _)) (by rw [List.length_take]; omega) (by first | with_reducible exact HBw.out.size | with_reducible exact (HBw.out.alloc HBw.out.size _).size) ?_
                 intro v40 w40 HT2
                 have HO40 : Hid (Od w40 wc.heap.size v40 (r.take p ++ [(d1, d2)])) := hid HT2.out.own
                 have HBx : Hid (Below wc.heap.size wc w40) := hid (by first | with_reducible exact HBw.out.trans (HT2.out.below (fun k hk => (own_lt HO34.out k hk).1) HBw.out.size) | with_reducible exact (HBw.out.alloc HBw.out.size _).trans (HT2.out.below (fun k hk => (own_lt HO34.out k hk).1) (HBw.out.alloc HBw.out.size _).size)))
              | (refine step_appD rfl (.tmp 40) (.tmp 43) rfl rfl rfl (v := v40) (B := wc.heap.size) (l := r.take p ++ [(d1, d2)]) (r := r.drop p) HO40.out (HS3.out _ HBx.out) (by rw [List.length_append, List.length_take, List.length_singleton]; omega) HBx.out.size ?_
                 intro v44 w44 HT3
                 have HO44 : Hid (Od w44 wc.heap.size v44 (ins (d1, d2) r)) := hid (by rw [HPI.out]; have := HT3.out.own; rwa [List.append_assoc] at this)
                 have HBy : Hid (Below wc.heap.size wc w44) := hid (HBx.out.trans (HT3.out.below (fun k hk => (own_lt HO40.out k hk).1) HBx.out.size))))
            all_goals
              go_wp2
              go_roundg (n - (kk + 1))
              case measure => omega
              case rel => exact ⟨kk + 1, by omega, by omega, by go_num, hid (by rw [take_snoc Hd.out, srt_snoc, ← HR.out]; exact HO44.out.mono HSW.out), hid (BWc.out.trans (HBy.out.mono HSW.out))⟩
    · have hltz : ¬ (kk : Int) < (n : Int) := by omega
      obtain rfl : kk = n := by omega
      go_wp2
      go_ret
      refine ⟨_, rfl, hid ⟨?_, BW.out⟩⟩
      have h1 := HR.out
      rw [List.take_of_length_le (by rw [HL.out]; exact Nat.le_refl _)] at h1
      rw [← h1]
      exact HO.out
end Go.Proofs.Ytdemhghflanncaa
