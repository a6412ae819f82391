/- Flight: the document's Launched. -/
import Derived.Test.YtdcolnipdipkhaaZs0
import Derived.Test.YtdcolnipdipkhaaZpl
import Derived.Deep.DeepBigQuietO
namespace Go.Proofs.Ytdcolnipdipkhaa.Fli
set_option maxRecDepth 100000
open Go.RowKit Go.Shelf Go.Lib

/-- Loads put together in a row of one's own: their limbs lie elsewhere, ahead of block B. -/
def Bld (C B : Nat) (w : World) (v : Value) (rs : List Lr) (L : List (Ld Pm)) : Prop := Gw w C 40 15 v L.length (cellsL rs) ∧ PairL w B rs L
theorem Bld.nil (C B : Nat) (w : World) : Bld C B w (.slice none 0 0) [] [] := ⟨Gw.nil _ _ _ _, PairL.nil _ _⟩
theorem Bld.below {C B : Nat} {w w' : World} {v : Value} {rs : List Lr} {L : List (Ld Pm)} (h : Bld C B w v rs L) (hb : Below w.heap.size w w') (hs : C ≤ w.heap.size) (hB : B ≤ C) : Bld C B w' v rs L := ⟨h.1.below hb, h.2.below (hb.mono (Nat.le_trans hB hs))⟩
theorem Bld.snoc {C B : Nat} {w w' : World} {v v' : Value} {rs : List Lr} {L : List (Ld Pm)} {r : Lr} {p : Ld Pm} (h : Bld C B w v rs L) (ht : TurnG w w' C 40 15 v v' (L.length + 1) (cellsL rs ++ cellsL [r])) (hr : Lrd w B r p) (hb : Below B w w') : Bld C B w' v' (rs ++ [r]) (L ++ [p]) := by
  refine ⟨?_, (h.2.snoc hr).below hb⟩
  have := ht.own
  rw [← cellsL_append] at this
  rwa [List.length_append]
theorem ins_none {q : Ld Pm} : ∀ {t : List (Ld Pm)}, (∀ p ∈ t, ¬ q.1 < p.1) → ins q t = t ++ [q]
  | [], _ => rfl
  | p :: t, h => by
    unfold ins
    rw [if_neg (h p (List.mem_cons_self ..)), ins_none fun x hx => h x (List.mem_cons_of_mem _ hx)]
    rfl
theorem ins_some {q p : Ld Pm} : ∀ {t : List (Ld Pm)}, (∃ x ∈ t, q.1 < x.1) → ins q (t ++ [p]) = ins q t ++ [p]
  | [], h => by obtain ⟨x, hx, _⟩ := h; cases hx
  | y :: t, h => by
    show ins q (y :: (t ++ [p])) = ins q (y :: t) ++ [p]
    unfold ins
    by_cases hy : q.1 < y.1
    · rw [if_pos hy, if_pos hy]; rfl
    · rw [if_neg hy, if_neg hy, ins_some (t := t) (by
        obtain ⟨x, hx, hl⟩ := h
        rcases List.mem_cons.1 hx with rfl | hx
        · exact absurd hl hy
        · exact ⟨x, hx, hl⟩)]
      rfl
theorem ins_last {q p : Ld Pm} : ∀ {t : List (Ld Pm)}, (∀ x ∈ t, ¬ q.1 < x.1) → q.1 < p.1 → ins q (t ++ [p]) = t ++ [q] ++ [p]
  | [], _, h => by show ins q [p] = [q] ++ [p]; unfold ins; rw [if_pos h]; rfl
  | y :: t, h, k => by
    show ins q (y :: (t ++ [p])) = _
    unfold ins
    rw [if_neg (h y (List.mem_cons_self ..)), ins_last (fun x hx => h x (List.mem_cons_of_mem _ hx)) k]
    rfl
/-- What Launched's loop holds: the new load is put in, or none behind it was met. -/
def LauI (q : Ld Pm) (t : List (Ld Pm)) (d : Bool) (L : List (Ld Pm)) : Prop := (d = true ∧ L = ins q t ∧ ∃ x ∈ t, q.1 < x.1) ∨ (d = false ∧ L = t ∧ ∀ x ∈ t, ¬ q.1 < x.1)
theorem LauI.put {q p : Ld Pm} {t L : List (Ld Pm)} (h : LauI q t true L) : LauI q (t ++ [p]) true (L ++ [p]) := by
  rcases h with ⟨_, rfl, hx⟩ | ⟨h, _⟩
  · refine .inl ⟨rfl, (ins_some hx).symm, ?_⟩
    obtain ⟨x, hm, hl⟩ := hx
    exact ⟨x, List.mem_append_left _ hm, hl⟩
  · cases h
theorem LauI.here {q p : Ld Pm} {t L : List (Ld Pm)} (h : LauI q t false L) (k : q.1 < p.1) : LauI q (t ++ [p]) true (L ++ [q] ++ [p]) := by
  rcases h with ⟨h, _⟩ | ⟨_, rfl, hx⟩
  · cases h
  · exact .inl ⟨rfl, (ins_last hx k).symm, p, by simp, k⟩
theorem LauI.skip {q p : Ld Pm} {t L : List (Ld Pm)} (h : LauI q t false L) (k : ¬ q.1 < p.1) : LauI q (t ++ [p]) false (L ++ [p]) := by
  rcases h with ⟨h, _⟩ | ⟨_, rfl, hx⟩
  · cases h
  · refine .inr ⟨rfl, rfl, fun x hm => ?_⟩
    rcases List.mem_append.1 hm with hm | hm
    · exact hx x hm
    · rw [List.mem_singleton.1 hm]; exact k
theorem LauI.fin {q : Ld Pm} {t L : List (Ld Pm)} (h : LauI q t true L) : L = ins q t := by
  rcases h with ⟨_, e, _⟩ | ⟨h, _⟩
  · exact e
  · cases h
theorem LauI.add {q : Ld Pm} {t L : List (Ld Pm)} (h : LauI q t false L) : L ++ [q] = ins q t := by
  rcases h with ⟨h, _⟩ | ⟨_, rfl, hx⟩
  · cases h
  · exact (ins_none hx).symm
theorem LauI.len {q : Ld Pm} {t L : List (Ld Pm)} {d : Bool} (h : LauI q t d L) : L.length ≤ t.length + 1 := by
  rcases h with ⟨_, rfl, _⟩ | ⟨_, rfl, _⟩
  · rw [ins_len]; exact Nat.le_refl _
  · omega
def LauR (W : World) (B n : Nat) (q : Ld Pm) (l : List (Ld Pm)) (gg : Nat) (s5 s6 s7 : Value) (wr : World) : Prop := ∃ (kk : Nat) (v : Value) (rs : List Lr) (L : List (Ld Pm)) (d : Bool), kk ≤ n ∧ n - kk ≤ gg ∧ s7 = .int .i64 kk ∧ v = s5 ∧ s6 = .bool d ∧ Hid (Bld W.heap.size B wr v rs L) ∧ Hid (LauI q (l.take kk) d L) ∧ Hid (Below W.heap.size W wr)
set_option maxHeartbeats 6400000 in
theorem rlaunched_any {w : World} {B n c : Nat} {A : Option Addr} {l : List (Ld Pm)} {x y z : Int} {M : Nat → Dy} {q : Ld Pm} (h : Lls w B A n c l) (hB : B ≤ w.heap.size) (hx : Lrd w B (x, y, z, M) q) (hz : SzL (ins q l)) :
    Calls Try.prog 33 #[.slice A n c, .agg (lcells x y z M)] w (TwsR w (ins q l)) := by
  obtain ⟨W, hW⟩ : ∃ W, W = w.alloc (.cells (lcells x y z M) 40) := ⟨_, rfl⟩
  have B0 := hid (show Below w.heap.size w W from hW ▸ (Below.refl _ w).alloc (Nat.le_refl _) _)
  have Y0 := hid (show Lbx W w.heap.size x y z M from hW ▸ Lbx.new w x y z M)
  have H := hid (h.below (B0.out.mono hB))
  have HQ := hid (hx.below (B0.out.mono hB))
  have hqn : q.1 = x := hx.nu.symm
  have hm := h.max
  have hcap := h.cap
  have HL := hid h.len
  have HZ := hid hz
  have HW := hid hW
  have hBW : B ≤ W.heap.size := Nat.le_trans hB B0.out.size
  have hn1 : n + 1 ≤ 1000 := by have := hz.1; rw [ins_len, h.len] at this; exact this
  clear hW h hz hx
  go_enter Try.func33, Try.ntmps33
  go_upto_region 1 with fail
  rw [← HW.out]
  go_wp2
  go_loopg [5, 6, 7] n (LauR W B n q l)
  case atStart => exact ⟨0, _, [], [], false, Nat.zero_le _, by omega, rfl, rfl, rfl, hid (Bld.nil _ _ _), hid (.inr ⟨rfl, by rw [List.take_zero], by rw [List.take_zero]; simp⟩), hid (Below.refl _ W)⟩
  case round =>
    obtain ⟨kk, v, rs, L, d, hkk, hg, rfl, rfl, rfl, HIwr, HD, HBwr⟩ := hrel
    have HLn := hid (show L.length ≤ kk + 1 by have := HD.out.len; rw [List.length_take] at this; omega)
    by_cases hlt : kk < n
    · have hltz : (kk : Int) < (n : Int) := by omega
      obtain ⟨b, off, ⟨x2, y2, z2, M2⟩, p, rfl, hb, hp, hr, hc⟩ := (H.out.below (HBwr.out.mono hBW)).get hlt
      have HP := hid hp
      have HR := hid hr
      have hpn : p.1 = x2 := hr.nu.symm
      have HX := hid (show wr.rangeAt b (off + kk * 15) (lcells x2 y2 z2 M2).toList from fun t v hv => by rw [Nat.add_assoc]; exact hc t v hv)
      have hc0 := hc 0 _ rfl
      rw [Nat.add_zero] at hc0
      have Yr := hid (Y0.out.below (HBwr.out) (by have := Y0.out.lt; exact this))
      have y0 := Yr.out.c0
      have hbr : b < wr.heap.size := Nat.lt_of_lt_of_le hb (Nat.le_trans hBW HBwr.out.size)
      clear hr hp hc
      cases d with
      | true =>
        have mixed : Try.prog.follows .mixedOrders = true := by kernel_rfl
        have HBz := hid ((Below.refl wr.heap.size wr).drew)
        go_upto_region 6 with fail
        have mixed : Try.prog.follows .mixedOrders = true := by kernel_rfl
        refine wp_region_held_drew (S := fun X => X.cell? ⟨b, off + kk * 15, none⟩ = some (.int .i64 x2) ∧ X.cell? ⟨w.heap.size, 0, none⟩ = some (.int .i64 x)) (by kernel_rfl) ⟨(HBz.out.cell (p := ⟨b, off + kk * 15, none⟩) hbr).trans hc0, (HBz.out.cell (p := ⟨w.heap.size, 0, none⟩) Yr.out.lt).trans y0⟩ (fun hHeld => ?_)
        generalize wr.drew = V at *
        refine wpAnyH_take (i := 0) (v := ?vt1) rfl (by kernel_rfl) (by kernel_rfl) (by kernel_rfl) (fun _ _ _ h => h) (Or.inl ⟨by kernel_rfl, ?yt1⟩) (by assumption) ?rt1
        case yt1 => (intro w0 hSw; (try dsimp only at hSw); (try simp only [List.getElem_toArray, List.getElem_cons_zero]); go_simp; try with_reducible rfl)
        (try simp only [Act.put, List.setIfInBounds_toArray, List.set_cons_zero, List.set_cons_succ, List.getElem_toArray, List.getElem_cons_zero])
        refine wpAnyH_take (i := 1) (v := ?vt2) rfl (by kernel_rfl) (by kernel_rfl) (by kernel_rfl) (fun _ _ _ h => h) (Or.inl ⟨by kernel_rfl, ?yt2⟩) (by assumption) ?rt2
        case yt2 => (intro w0 hSw; (try dsimp only at hSw); (try simp only [List.getElem_toArray, List.getElem_cons_succ, List.getElem_cons_zero]); go_simp; try with_reducible rfl)
        (try simp only [Act.put, List.setIfInBounds_toArray, List.set_cons_zero, List.set_cons_succ, List.getElem_toArray, List.getElem_cons_succ, List.getElem_cons_zero])
        refine wpAnyH_take (i := 2) (v := ?vt3) rfl (by kernel_rfl) (by kernel_rfl) (by kernel_rfl) (fun _ _ _ h => h) (Or.inl ⟨by kernel_rfl, ?yt3⟩) (by assumption) ?rt3
        case yt3 => (intro w0 hSw; (try dsimp only at hSw); (try simp only [List.getElem_toArray, List.getElem_cons_succ, List.getElem_cons_zero]); go_simp; try with_reducible rfl)
        (try simp only [Act.put, List.setIfInBounds_toArray, List.set_cons_zero, List.set_cons_succ, List.getElem_toArray, List.getElem_cons_succ, List.getElem_cons_zero])
        refine skH (i := 3) rfl (by kernel_rfl) (fun _ _ _ h => h) (by kernel_rfl) hHeld ?_
        (try simp only [Act.put, List.setIfInBounds_toArray])
        refine skH (i := 4) rfl (by kernel_rfl) (fun _ _ _ h => h) (by kernel_rfl) hHeld ?_
        (try simp only [Act.put])
        refine skH (i := 5) rfl (by kernel_rfl) (fun _ _ _ h => h) (by kernel_rfl) hHeld ?_
        (try simp only [Act.put])
        refine skH (i := 6) rfl (by kernel_rfl) (fun _ _ _ h => h) (by kernel_rfl) hHeld ?_
        (try simp only [Act.put])
        refine skH (i := 7) rfl (by kernel_rfl) (fun _ _ _ h => h) (by kernel_rfl) hHeld ?_
        (try simp only [Act.put])
        refine skH (i := 8) rfl (by kernel_rfl) (fun _ _ _ h => h) (by kernel_rfl) hHeld ?_
        (try simp only [Act.put])
        refine skH (i := 9) rfl (by kernel_rfl) (fun _ _ _ h => h) (by kernel_rfl) hHeld ?_
        (try simp only [Act.put])
        refine skH (i := 10) rfl (by kernel_rfl) (fun _ _ _ h => h) (by kernel_rfl) hHeld ?_
        (try simp only [Act.put])
        refine wpAnyH_take (i := 11) (v := ?vt4) rfl (by kernel_rfl) (by kernel_rfl) (by kernel_rfl) (fun _ _ _ h => h) (Or.inl ⟨by kernel_rfl, ?yt4⟩) (by assumption) ?rt4
        case yt4 => (intro w0 hSw; (try dsimp only at hSw); (try simp only [List.getElem_toArray, List.getElem_cons_succ, List.getElem_cons_zero]); go_simp; try with_reducible rfl)
        (try simp only [Act.put, List.setIfInBounds_toArray, List.set_cons_zero, List.set_cons_succ, List.getElem_toArray, List.getElem_cons_succ, List.getElem_cons_zero])
        refine wpAnyH_done (by kernel_rfl) ?_ _
        have HIV := hid (HIwr.out.below HBz.out HBwr.out.size hBW)
        have HBV := hid (gbelow_on HBwr.out (Nat.le_refl _) HBz.out)
        have KV := hid (HBz.out.mono (Nat.le_trans hBW HBwr.out.size))
        have YV := hid (Yr.out.below HBz.out Yr.out.lt)
        have RV := hid (HR.out.below KV.out)
        have XV := hid (show V.rangeAt b (off + kk * 15) (lcells x2 y2 z2 M2).toList from fun t v hv => (World.cell?_of_block (a := ⟨b, off + kk * 15 + t, none⟩) (KV.out.block b hb)).trans (HX.out t v hv))
        have b6 := hid ((Below.refl V.heap.size V).alloc (Nat.le_refl _) (.cells (lcells x2 y2 z2 M2) 40))
        have I6 := hid (HIV.out.below b6.out (HBV.out.size) (hBW))
        have B6 := hid (gbelow_on HBV.out (Nat.le_refl _) b6.out)
        have G6 := hid (Gs.new (cs := cellsL [(x2, y2, z2, M2)]) (k := 15) (n := 1) (c := 1) (B := V.heap.size + 1) (heap_alloc_new V (.cells (lcells x2 y2 z2 M2) 40)) (Nat.lt_succ_self _) rfl (Nat.le_refl _) (by omega))
        have R6 := hid (RV.out.below (b6.out.mono (Nat.le_trans hBW HBV.out.size)))
        go_wp2_with (first
          | (refine wp_lload (by rfl) (.tmp 33) (by with_reducible rfl) b (off + kk * 15) x2 y2 z2 M2 (by rfl) XV.out ?_)
          | (at_builtin
             refine list_appG rfl _ _ rfl Try.underlying22 infoLd rfl (by decide) (by decide) rfl rfl I6.out.1 G6.out (cellsL_one _) (by have := HLn.out; omega) B6.out.size ?_
             intro v7 w7 T7
             have I7 := hid (Bld.snoc I6.out T7.out R6.out ((T7.out.below I6.out.1 B6.out.size).mono hBW))
             have B7 := hid (B6.out.trans (T7.out.below I6.out.1 B6.out.size)))
          | fail)
        go_roundg (n - (kk + 1))
        case measure => omega
        case rel => exact ⟨kk + 1, v7, _, _, true, by omega, by omega, by go_num, rfl, rfl, I7, hid (by rw [take_ld HP.out]; exact HD.out.put), B7⟩
      | false =>
        by_cases hgt : x2 > x
        case neg =>
          have mixed : Try.prog.follows .mixedOrders = true := by kernel_rfl
          have HBz := hid ((Below.refl wr.heap.size wr).drew)
          go_upto_region 6 with fail
          have mixed : Try.prog.follows .mixedOrders = true := by kernel_rfl
          refine wp_region_held_drew (S := fun X => X.cell? ⟨b, off + kk * 15, none⟩ = some (.int .i64 x2) ∧ X.cell? ⟨w.heap.size, 0, none⟩ = some (.int .i64 x)) (by kernel_rfl) ⟨(HBz.out.cell (p := ⟨b, off + kk * 15, none⟩) hbr).trans hc0, (HBz.out.cell (p := ⟨w.heap.size, 0, none⟩) Yr.out.lt).trans y0⟩ (fun hHeld => ?_)
          generalize wr.drew = V at *
          refine wpAnyH_take (i := 0) (v := ?vn1) rfl (by kernel_rfl) (by kernel_rfl) (by kernel_rfl) (fun _ _ _ h => h) (Or.inl ⟨by kernel_rfl, ?yn1⟩) (by assumption) ?rn1
          case yn1 => (intro w0 hSw; (try dsimp only at hSw); (try simp only [List.getElem_toArray, List.getElem_cons_zero]); go_simp; try with_reducible rfl)
          (try simp only [Act.put, List.setIfInBounds_toArray, List.set_cons_zero, List.set_cons_succ, List.getElem_toArray, List.getElem_cons_zero])
          refine wpAnyH_take (i := 1) (v := ?vn2) rfl (by kernel_rfl) (by kernel_rfl) (by kernel_rfl) (fun _ _ _ h => h) (Or.inl ⟨by kernel_rfl, ?yn2⟩) (by assumption) ?rn2
          case yn2 => (intro w0 hSw; (try dsimp only at hSw); (try simp only [List.getElem_toArray, List.getElem_cons_succ, List.getElem_cons_zero]); go_simp; try with_reducible rfl)
          (try simp only [Act.put, List.setIfInBounds_toArray, List.set_cons_zero, List.set_cons_succ, List.getElem_toArray, List.getElem_cons_succ, List.getElem_cons_zero])
          refine wpAnyH_take (i := 2) (v := ?vn3) rfl (by kernel_rfl) (by kernel_rfl) (by kernel_rfl) (fun _ _ _ h => h) (Or.inl ⟨by kernel_rfl, ?yn3⟩) (by assumption) ?rn3
          case yn3 => (intro w0 hSw; (try dsimp only at hSw); (try simp only [List.getElem_toArray, List.getElem_cons_succ, List.getElem_cons_zero]); go_simp; try with_reducible rfl)
          (try simp only [Act.put, List.setIfInBounds_toArray, List.set_cons_zero, List.set_cons_succ, List.getElem_toArray, List.getElem_cons_succ, List.getElem_cons_zero])
          refine wpAnyH_take (i := 3) (v := ?vn4) rfl (by kernel_rfl) (by kernel_rfl) (by kernel_rfl) (fun _ _ _ h => h) (Or.inl ⟨by kernel_rfl, ?yn4⟩) (by assumption) ?rn4
          case yn4 => (intro w0 hSw; (try dsimp only at hSw); (try simp only [List.getElem_toArray, List.getElem_cons_succ, List.getElem_cons_zero]); go_simp; try with_reducible rfl)
          (try simp only [Act.put, List.setIfInBounds_toArray, List.set_cons_zero, List.set_cons_succ, List.getElem_toArray, List.getElem_cons_succ, List.getElem_cons_zero])
          refine wpAnyH_take (i := 4) (v := ?vn5) rfl (by kernel_rfl) (by kernel_rfl) (by kernel_rfl) (fun _ _ _ h => h) (Or.inl ⟨by kernel_rfl, ?yn5⟩) (by assumption) ?rn5
          case yn5 => (intro w0 hSw; (try dsimp only at hSw); (try simp only [List.getElem_toArray, List.getElem_cons_succ, List.getElem_cons_zero]); go_simp; try with_reducible rfl)
          (try simp only [Act.put, List.setIfInBounds_toArray, List.set_cons_zero, List.set_cons_succ, List.getElem_toArray, List.getElem_cons_succ, List.getElem_cons_zero])
          refine wpAnyH_take (i := 5) (v := ?vn6) rfl (by kernel_rfl) (by kernel_rfl) (by kernel_rfl) (fun _ _ _ h => h) (Or.inl ⟨by kernel_rfl, ?yn6⟩) (by assumption) ?rn6
          case yn6 => (intro w0 hSw; (try dsimp only at hSw); (try simp only [List.getElem_toArray, List.getElem_cons_succ, List.getElem_cons_zero]); go_simp; try with_reducible rfl)
          (try simp only [Act.put, List.setIfInBounds_toArray, List.set_cons_zero, List.set_cons_succ, List.getElem_toArray, List.getElem_cons_succ, List.getElem_cons_zero])
          refine wpAnyH_take (i := 6) (v := ?vn7) rfl (by kernel_rfl) (by kernel_rfl) (by kernel_rfl) (fun _ _ _ h => h) (Or.inl ⟨by kernel_rfl, ?yn7⟩) (by assumption) ?rn7
          case yn7 => (intro w0 hSw; (try dsimp only at hSw); (try simp only [List.getElem_toArray, List.getElem_cons_succ, List.getElem_cons_zero]); go_simp; try with_reducible rfl)
          (try simp only [Act.put, List.setIfInBounds_toArray, List.set_cons_zero, List.set_cons_succ, List.getElem_toArray, List.getElem_cons_succ, List.getElem_cons_zero])
          refine wpAnyH_take (i := 7) (v := ?vn8) rfl (by kernel_rfl) (by kernel_rfl) (by kernel_rfl) (fun _ _ _ h => h) (Or.inl ⟨by kernel_rfl, ?yn8⟩) (by assumption) ?rn8
          case yn8 => (intro w0 hSw; (try dsimp only at hSw); (try simp only [List.getElem_toArray, List.getElem_cons_succ, List.getElem_cons_zero]); go_simp; try with_reducible rfl)
          (try simp only [Act.put, List.setIfInBounds_toArray, List.set_cons_zero, List.set_cons_succ, List.getElem_toArray, List.getElem_cons_succ, List.getElem_cons_zero])
          refine wpAnyH_take (i := 8) (v := ?vn9) rfl (by kernel_rfl) (by kernel_rfl) (by kernel_rfl) (fun _ _ _ h => h) (Or.inl ⟨by kernel_rfl, ?yn9⟩) (by assumption) ?rn9
          case yn9 => (intro w0 hSw; (try dsimp only at hSw); (try simp only [List.getElem_toArray, List.getElem_cons_succ, List.getElem_cons_zero]); go_simp; try with_reducible rfl)
          (try simp only [Act.put, List.setIfInBounds_toArray, List.set_cons_zero, List.set_cons_succ, List.getElem_toArray, List.getElem_cons_succ, List.getElem_cons_zero])
          refine wpAnyH_take (i := 9) (v := ?vn10) rfl (by kernel_rfl) (by kernel_rfl) (by kernel_rfl) (fun _ _ _ h => h) (Or.inl ⟨by kernel_rfl, ?yn10⟩) (by assumption) ?rn10
          case yn10 => (intro w0 hSw; (try dsimp only at hSw); (try simp only [List.getElem_toArray, List.getElem_cons_succ, List.getElem_cons_zero]); go_simp; try with_reducible rfl)
          (try simp only [Act.put, List.setIfInBounds_toArray, List.set_cons_zero, List.set_cons_succ, List.getElem_toArray, List.getElem_cons_succ, List.getElem_cons_zero])
          refine wpAnyH_take (i := 10) (v := .bool false) rfl (by kernel_rfl) (by kernel_rfl) (by kernel_rfl) (fun _ _ _ h => h) (Or.inl ⟨by kernel_rfl, ?yn11⟩) (by assumption) ?rn11
          case yn11 => (intro w0 hSw; (try dsimp only at hSw); (try simp only [List.getElem_toArray, List.getElem_cons_succ, List.getElem_cons_zero]); go_simp; try (first | with_reducible rfl | omega | simp [hgt]))
          (try simp only [Act.put, List.setIfInBounds_toArray, List.set_cons_zero, List.set_cons_succ, List.getElem_toArray, List.getElem_cons_succ, List.getElem_cons_zero])
          refine wpAnyH_take (i := 11) (v := ?vn12) rfl (by kernel_rfl) (by kernel_rfl) (by kernel_rfl) (fun _ _ _ h => h) (Or.inl ⟨by kernel_rfl, ?yn12⟩) (by assumption) ?rn12
          case yn12 => (intro w0 hSw; (try dsimp only at hSw); (try simp only [List.getElem_toArray, List.getElem_cons_succ, List.getElem_cons_zero]); go_simp; try with_reducible rfl)
          (try simp only [Act.put, List.setIfInBounds_toArray, List.set_cons_zero, List.set_cons_succ, List.getElem_toArray, List.getElem_cons_succ, List.getElem_cons_zero])
          refine wpAnyH_done (by kernel_rfl) ?_ _
          have HIV := hid (HIwr.out.below HBz.out HBwr.out.size hBW)
          have HBV := hid (gbelow_on HBwr.out (Nat.le_refl _) HBz.out)
          have KV := hid (HBz.out.mono (Nat.le_trans hBW HBwr.out.size))
          have YV := hid (Yr.out.below HBz.out Yr.out.lt)
          have RV := hid (HR.out.below KV.out)
          have XV := hid (show V.rangeAt b (off + kk * 15) (lcells x2 y2 z2 M2).toList from fun t v hv => (World.cell?_of_block (a := ⟨b, off + kk * 15 + t, none⟩) (KV.out.block b hb)).trans (HX.out t v hv))
          have b6 := hid ((Below.refl V.heap.size V).alloc (Nat.le_refl _) (.cells (lcells x2 y2 z2 M2) 40))
          have I6 := hid (HIV.out.below b6.out (HBV.out.size) (hBW))
          have B6 := hid (gbelow_on HBV.out (Nat.le_refl _) b6.out)
          have G6 := hid (Gs.new (cs := cellsL [(x2, y2, z2, M2)]) (k := 15) (n := 1) (c := 1) (B := V.heap.size + 1) (heap_alloc_new V (.cells (lcells x2 y2 z2 M2) 40)) (Nat.lt_succ_self _) rfl (Nat.le_refl _) (by omega))
          have R6 := hid (RV.out.below (b6.out.mono (Nat.le_trans hBW HBV.out.size)))
          go_wp2_with (first
            | (refine wp_lload (by rfl) (.tmp 33) (by with_reducible rfl) b (off + kk * 15) x2 y2 z2 M2 (by rfl) XV.out ?_)
            | (at_builtin
               refine list_appG rfl _ _ rfl Try.underlying22 infoLd rfl (by decide) (by decide) rfl rfl I6.out.1 G6.out (cellsL_one _) (by have := HLn.out; omega) B6.out.size ?_
               intro v7 w7 T7
               have I7 := hid (Bld.snoc I6.out T7.out R6.out ((T7.out.below I6.out.1 B6.out.size).mono hBW))
               have B7 := hid (B6.out.trans (T7.out.below I6.out.1 B6.out.size)))
            | fail)
          go_roundg (n - (kk + 1))
          case measure => omega
          case rel => exact ⟨kk + 1, v7, _, _, false, by omega, by omega, by go_num, rfl, rfl, I7, hid (by rw [take_ld HP.out]; exact HD.out.skip (by rw [hqn, hpn]; omega)), B7⟩
        have mixed : Try.prog.follows .mixedOrders = true := by kernel_rfl
        have HBz := hid ((Below.refl wr.heap.size wr).drew)
        go_upto_region 6 with fail
        have mixed : Try.prog.follows .mixedOrders = true := by kernel_rfl
        refine wp_region_held_drew (S := fun X => X.cell? ⟨b, off + kk * 15, none⟩ = some (.int .i64 x2) ∧ X.cell? ⟨w.heap.size, 0, none⟩ = some (.int .i64 x)) (by kernel_rfl) ⟨(HBz.out.cell (p := ⟨b, off + kk * 15, none⟩) hbr).trans hc0, (HBz.out.cell (p := ⟨w.heap.size, 0, none⟩) Yr.out.lt).trans y0⟩ (fun hHeld => ?_)
        generalize wr.drew = V at *
        refine wpAnyH_take (i := 0) (v := ?vg1) rfl (by kernel_rfl) (by kernel_rfl) (by kernel_rfl) (fun _ _ _ h => h) (Or.inl ⟨by kernel_rfl, ?yg1⟩) (by assumption) ?rg1
        case yg1 => (intro w0 hSw; (try dsimp only at hSw); (try simp only [List.getElem_toArray, List.getElem_cons_zero]); go_simp; try with_reducible rfl)
        (try simp only [Act.put, List.setIfInBounds_toArray, List.set_cons_zero, List.set_cons_succ, List.getElem_toArray, List.getElem_cons_zero])
        refine wpAnyH_take (i := 1) (v := ?vg2) rfl (by kernel_rfl) (by kernel_rfl) (by kernel_rfl) (fun _ _ _ h => h) (Or.inl ⟨by kernel_rfl, ?yg2⟩) (by assumption) ?rg2
        case yg2 => (intro w0 hSw; (try dsimp only at hSw); (try simp only [List.getElem_toArray, List.getElem_cons_succ, List.getElem_cons_zero]); go_simp; try with_reducible rfl)
        (try simp only [Act.put, List.setIfInBounds_toArray, List.set_cons_zero, List.set_cons_succ, List.getElem_toArray, List.getElem_cons_succ, List.getElem_cons_zero])
        refine wpAnyH_take (i := 2) (v := ?vg3) rfl (by kernel_rfl) (by kernel_rfl) (by kernel_rfl) (fun _ _ _ h => h) (Or.inl ⟨by kernel_rfl, ?yg3⟩) (by assumption) ?rg3
        case yg3 => (intro w0 hSw; (try dsimp only at hSw); (try simp only [List.getElem_toArray, List.getElem_cons_succ, List.getElem_cons_zero]); go_simp; try with_reducible rfl)
        (try simp only [Act.put, List.setIfInBounds_toArray, List.set_cons_zero, List.set_cons_succ, List.getElem_toArray, List.getElem_cons_succ, List.getElem_cons_zero])
        refine wpAnyH_take (i := 3) (v := ?vg4) rfl (by kernel_rfl) (by kernel_rfl) (by kernel_rfl) (fun _ _ _ h => h) (Or.inl ⟨by kernel_rfl, ?yg4⟩) (by assumption) ?rg4
        case yg4 => (intro w0 hSw; (try dsimp only at hSw); (try simp only [List.getElem_toArray, List.getElem_cons_succ, List.getElem_cons_zero]); go_simp; try with_reducible rfl)
        (try simp only [Act.put, List.setIfInBounds_toArray, List.set_cons_zero, List.set_cons_succ, List.getElem_toArray, List.getElem_cons_succ, List.getElem_cons_zero])
        refine wpAnyH_take (i := 4) (v := ?vg5) rfl (by kernel_rfl) (by kernel_rfl) (by kernel_rfl) (fun _ _ _ h => h) (Or.inl ⟨by kernel_rfl, ?yg5⟩) (by assumption) ?rg5
        case yg5 => (intro w0 hSw; (try dsimp only at hSw); (try simp only [List.getElem_toArray, List.getElem_cons_succ, List.getElem_cons_zero]); go_simp; try with_reducible rfl)
        (try simp only [Act.put, List.setIfInBounds_toArray, List.set_cons_zero, List.set_cons_succ, List.getElem_toArray, List.getElem_cons_succ, List.getElem_cons_zero])
        refine wpAnyH_take (i := 5) (v := ?vg6) rfl (by kernel_rfl) (by kernel_rfl) (by kernel_rfl) (fun _ _ _ h => h) (Or.inl ⟨by kernel_rfl, ?yg6⟩) (by assumption) ?rg6
        case yg6 => (intro w0 hSw; (try dsimp only at hSw); (try simp only [List.getElem_toArray, List.getElem_cons_succ, List.getElem_cons_zero]); go_simp; try with_reducible rfl)
        (try simp only [Act.put, List.setIfInBounds_toArray, List.set_cons_zero, List.set_cons_succ, List.getElem_toArray, List.getElem_cons_succ, List.getElem_cons_zero])
        refine wpAnyH_take (i := 6) (v := ?vg7) rfl (by kernel_rfl) (by kernel_rfl) (by kernel_rfl) (fun _ _ _ h => h) (Or.inl ⟨by kernel_rfl, ?yg7⟩) (by assumption) ?rg7
        case yg7 => (intro w0 hSw; (try dsimp only at hSw); (try simp only [List.getElem_toArray, List.getElem_cons_succ, List.getElem_cons_zero]); go_simp; try with_reducible rfl)
        (try simp only [Act.put, List.setIfInBounds_toArray, List.set_cons_zero, List.set_cons_succ, List.getElem_toArray, List.getElem_cons_succ, List.getElem_cons_zero])
        refine wpAnyH_take (i := 7) (v := ?vg8) rfl (by kernel_rfl) (by kernel_rfl) (by kernel_rfl) (fun _ _ _ h => h) (Or.inl ⟨by kernel_rfl, ?yg8⟩) (by assumption) ?rg8
        case yg8 => (intro w0 hSw; (try dsimp only at hSw); (try simp only [List.getElem_toArray, List.getElem_cons_succ, List.getElem_cons_zero]); go_simp; try with_reducible rfl)
        (try simp only [Act.put, List.setIfInBounds_toArray, List.set_cons_zero, List.set_cons_succ, List.getElem_toArray, List.getElem_cons_succ, List.getElem_cons_zero])
        refine wpAnyH_take (i := 8) (v := ?vg9) rfl (by kernel_rfl) (by kernel_rfl) (by kernel_rfl) (fun _ _ _ h => h) (Or.inl ⟨by kernel_rfl, ?yg9⟩) (by assumption) ?rg9
        case yg9 => (intro w0 hSw; (try dsimp only at hSw); (try simp only [List.getElem_toArray, List.getElem_cons_succ, List.getElem_cons_zero]); go_simp; try with_reducible rfl)
        (try simp only [Act.put, List.setIfInBounds_toArray, List.set_cons_zero, List.set_cons_succ, List.getElem_toArray, List.getElem_cons_succ, List.getElem_cons_zero])
        refine wpAnyH_take (i := 9) (v := ?vg10) rfl (by kernel_rfl) (by kernel_rfl) (by kernel_rfl) (fun _ _ _ h => h) (Or.inl ⟨by kernel_rfl, ?yg10⟩) (by assumption) ?rg10
        case yg10 => (intro w0 hSw; (try dsimp only at hSw); (try simp only [List.getElem_toArray, List.getElem_cons_succ, List.getElem_cons_zero]); go_simp; try with_reducible rfl)
        (try simp only [Act.put, List.setIfInBounds_toArray, List.set_cons_zero, List.set_cons_succ, List.getElem_toArray, List.getElem_cons_succ, List.getElem_cons_zero])
        refine wpAnyH_take (i := 10) (v := .bool true) rfl (by kernel_rfl) (by kernel_rfl) (by kernel_rfl) (fun _ _ _ h => h) (Or.inl ⟨by kernel_rfl, ?yg11⟩) (by assumption) ?rg11
        case yg11 => (intro w0 hSw; (try dsimp only at hSw); (try simp only [List.getElem_toArray, List.getElem_cons_succ, List.getElem_cons_zero]); go_simp; try (first | with_reducible rfl | omega | simp [hgt]))
        (try simp only [Act.put, List.setIfInBounds_toArray, List.set_cons_zero, List.set_cons_succ, List.getElem_toArray, List.getElem_cons_succ, List.getElem_cons_zero])
        refine wpAnyH_take (i := 11) (v := ?vg12) rfl (by kernel_rfl) (by kernel_rfl) (by kernel_rfl) (fun _ _ _ h => h) (Or.inl ⟨by kernel_rfl, ?yg12⟩) (by assumption) ?rg12
        case yg12 => (intro w0 hSw; (try dsimp only at hSw); (try simp only [List.getElem_toArray, List.getElem_cons_succ, List.getElem_cons_zero]); go_simp; try with_reducible rfl)
        (try simp only [Act.put, List.setIfInBounds_toArray, List.set_cons_zero, List.set_cons_succ, List.getElem_toArray, List.getElem_cons_succ, List.getElem_cons_zero])
        refine wpAnyH_done (by kernel_rfl) ?_ _
        have HIV := hid (HIwr.out.below HBz.out HBwr.out.size hBW)
        have HBV := hid (gbelow_on HBwr.out (Nat.le_refl _) HBz.out)
        have KV := hid (HBz.out.mono (Nat.le_trans hBW HBwr.out.size))
        have YV := hid (Yr.out.below HBz.out Yr.out.lt)
        have RV := hid (HR.out.below KV.out)
        have XV := hid (show V.rangeAt b (off + kk * 15) (lcells x2 y2 z2 M2).toList from fun t v hv => (World.cell?_of_block (a := ⟨b, off + kk * 15 + t, none⟩) (KV.out.block b hb)).trans (HX.out t v hv))
        have b4 := hid ((Below.refl V.heap.size V).alloc (Nat.le_refl _) (.cells (lcells x y z M) 40))
        have I4 := hid (HIV.out.below b4.out (HBV.out.size) (hBW))
        have B4 := hid (gbelow_on HBV.out (Nat.le_refl _) b4.out)
        have G4 := hid (Gs.new (cs := cellsL [(x, y, z, M)]) (k := 15) (n := 1) (c := 1) (B := V.heap.size + 1) (heap_alloc_new V (.cells (lcells x y z M) 40)) (Nat.lt_succ_self _) rfl (Nat.le_refl _) (by omega))
        have R4 := hid (HQ.out.below ((HBV.out.trans (b4.out.mono HBV.out.size)).mono hBW))
        have yr := lbx_row YV.out
        go_upto_region 8 with (first
          | (refine wp_lload (by rfl) (.tmp 3) (by with_reducible rfl) w.heap.size 0 x y z M (by rfl) yr ?_)
          | (at_builtin
             refine list_appG rfl _ _ rfl Try.underlying22 infoLd rfl (by decide) (by decide) rfl rfl I4.out.1 G4.out (cellsL_one _) (by have := HLn.out; omega) B4.out.size ?_
             intro v5 w5 T5
             have HIw5 := hid (Bld.snoc I4.out T5.out R4.out ((T5.out.below I4.out.1 B4.out.size).mono hBW))
             have HBw5 := hid (B4.out.trans (T5.out.below I4.out.1 B4.out.size)))
          | fail)
        have K5 := hid (((b4.out.mono HBV.out.size).trans (T5.out.below I4.out.1 B4.out.size)).mono hBW)
        have HX5 := hid (show w5.rangeAt b (off + kk * 15) (lcells x2 y2 z2 M2).toList from fun t v hv => (World.cell?_of_block (a := ⟨b, off + kk * 15 + t, none⟩) (K5.out.block b hb)).trans (XV.out t v hv))
        have b6 := hid ((Below.refl w5.heap.size w5).alloc (Nat.le_refl _) (.cells (lcells x2 y2 z2 M2) 40))
        have I6 := hid (HIw5.out.below b6.out (HBw5.out.size) (hBW))
        have B6 := hid (gbelow_on HBw5.out (Nat.le_refl _) b6.out)
        have G6 := hid (Gs.new (cs := cellsL [(x2, y2, z2, M2)]) (k := 15) (n := 1) (c := 1) (B := w5.heap.size + 1) (heap_alloc_new w5 (.cells (lcells x2 y2 z2 M2) 40)) (Nat.lt_succ_self _) rfl (Nat.le_refl _) (by omega))
        have R6 := hid ((RV.out.below K5.out).below (b6.out.mono (Nat.le_trans hBW HBw5.out.size)))
        go_wp2_with (first
          | (refine wp_lload (by rfl) (.tmp 33) (by with_reducible rfl) b (off + kk * 15) x2 y2 z2 M2 (by rfl) HX5.out ?_)
          | (at_builtin
             refine list_appG rfl _ _ rfl Try.underlying22 infoLd rfl (by decide) (by decide) rfl rfl I6.out.1 G6.out (cellsL_one _) (by rw [List.length_append]; have := HLn.out; show L.length + 1 + 1 ≤ 100000; omega) B6.out.size ?_
             intro v7 w7 T7
             have I7 := hid (Bld.snoc I6.out T7.out R6.out ((T7.out.below I6.out.1 B6.out.size).mono hBW))
             have B7 := hid (B6.out.trans (T7.out.below I6.out.1 B6.out.size)))
          | fail)
        go_roundg (n - (kk + 1))
        case measure => omega
        case rel => exact ⟨kk + 1, v7, _, _, true, by omega, by omega, by go_num, rfl, rfl, I7, hid (by rw [take_ld HP.out]; exact HD.out.here (by rw [hqn, hpn]; omega)), B7⟩
    · have hltz : ¬ (kk : Int) < (n : Int) := by omega
      obtain rfl : kk = n := by omega
      have HD2 := hid (show LauI q l d L by have := HD.out; rwa [List.take_of_length_le (by rw [HL.out]; exact Nat.le_refl _)] at this)
      cases d with
      | true =>
        obtain ⟨A2, c2, e2, g2, _⟩ := HIwr.out.1.form
        have HF := hid HD2.out.fin
        subst e2
        have L2 := hid (show Lls wr wr.heap.size A2 L.length c2 L from ⟨rs, g2, (HIwr.out.2.mono (Nat.le_trans hBW HBwr.out.size))⟩)
        have CT := hid (rtwins_any L2.out (Nat.le_refl _) (by rw [HF.out]; exact HZ.out))
        go_wp2_with fail
        refine CT.out.mono ?_
        rintro e w3 ⟨v3, rs3, rfl, H3⟩
        have H4 := hid (And.intro (H3.out.1.mono (Nat.le_trans B0.out.size HBwr.out.size)) (gbelow_on B0.out (Nat.le_refl _) (gbelow_on HBwr.out (Nat.le_refl _) H3.out.2)))
        clear H3
        go_wp2
        go_ret
        rw [← HF.out]
        exact ⟨v3, rs3, rfl, hid H4.out⟩
      | false =>
        have HF := hid HD2.out.add
        have Yr := hid (Y0.out.below (HBwr.out) (by have := Y0.out.lt; exact this))
        have b6 := hid ((Below.refl wr.heap.size wr).alloc (Nat.le_refl _) (.cells (lcells x y z M) 40))
        have I6 := hid (HIwr.out.below b6.out (HBwr.out.size) (hBW))
        have B6 := hid (gbelow_on HBwr.out (Nat.le_refl _) b6.out)
        have G6 := hid (Gs.new (cs := cellsL [(x, y, z, M)]) (k := 15) (n := 1) (c := 1) (B := wr.heap.size + 1) (heap_alloc_new wr (.cells (lcells x y z M) 40)) (Nat.lt_succ_self _) rfl (Nat.le_refl _) (by omega))
        have R6 := hid (HQ.out.below ((HBwr.out.trans (b6.out.mono HBwr.out.size)).mono hBW))
        have yr := lbx_row Yr.out
        go_upto_region 12 with (first
          | (refine wp_lload (by rfl) (.tmp 3) (by with_reducible rfl) w.heap.size 0 x y z M (by rfl) yr ?_)
          | (at_builtin
             refine list_appG rfl _ _ rfl Try.underlying22 infoLd rfl (by decide) (by decide) rfl rfl I6.out.1 G6.out (cellsL_one _) (by have := HLn.out; omega) B6.out.size ?_
             intro v7 w7 T7
             have I7 := hid (Bld.snoc I6.out T7.out R6.out ((T7.out.below I6.out.1 B6.out.size).mono hBW))
             have B7 := hid (B6.out.trans (T7.out.below I6.out.1 B6.out.size)))
          | fail)
        obtain ⟨A2, c2, e2, g2, _⟩ := I7.out.1.form
        rw [show (L ++ [q]).length = L.length + 1 from by simp] at e2 g2
        generalize hmm : L.length + 1 = m2 at e2 g2
        subst e2
        have L2 := hid (show Lls w7 w7.heap.size A2 m2 c2 (L ++ [q]) from ⟨_, g2, (I7.out.2.mono (Nat.le_trans hBW B7.out.size))⟩)
        have CT := hid (rtwins_any L2.out (Nat.le_refl _) (by rw [HF.out]; exact HZ.out))
        go_wp2_with fail
        refine CT.out.mono ?_
        rintro e w3 ⟨v3, rs3, rfl, H3⟩
        have H4 := hid (And.intro (H3.out.1.mono (Nat.le_trans B0.out.size B7.out.size)) (gbelow_on B0.out (Nat.le_refl _) (gbelow_on B7.out (Nat.le_refl _) H3.out.2)))
        clear H3
        go_wp2
        go_ret
        rw [← HF.out]
        exact ⟨v3, rs3, rfl, hid H4.out⟩
end Go.Proofs.Ytdcolnipdipkhaa.Fli
