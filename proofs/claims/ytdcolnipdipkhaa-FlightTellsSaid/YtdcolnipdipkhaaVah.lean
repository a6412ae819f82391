/- 'append(x, y...)', and copies by it. -/
/- The document's dyads: May, Same, Twin, Minus; what is spoilt. -/
import Derived.Test.YtdcolnipdipkhaaMem
import Derived.Laws.AppendOwnNone
import Derived.Test.YtdcolnipdipkhaaVae
import Derived.Test.YtdcolnipdipkhaaVag
import Derived.Test.YtdcolnipdipkhaaVaf

namespace Go.Proofs.Ytdcolnipdipkhaa
open Go.RowKit

/-- 'append(x, y...)', x a row of the call's own, y read from wherever, or nil. -/
theorem wpList_append_src {P : Program} {ops : Array Oper} {rest : List Oper} {o : Oper} {a : Act} {Q : Exit → Act → World → Prop} (hgd : o.guard = none) (s x : Operand) (t : TypeId)
    (ho : o.op = .call { callee := .builtin .append, args := #[s, x], argTypes := #[t, t] }) (e : TypeId) (z : Value) (bytes : Nat) (ht : P.underlying t = some (.slice e))
    (hi : (P.info? e).map (fun i => (i.zero, i.size, i.bytes)) = some (some z, 1, bytes)) (hz : z.cells.size = 1) (hby : bytes ≤ 8)
    {w : World} {B n m c : Nat} {v : Value} {xs news : List Value} {A : Option Addr} (hs : a.eval s = v) (hx : a.eval x = .slice A m c) (hown : w.ownsRow B e 1 v n xs) (hB : B ≤ w.heap.size)
    (hl : news.length = m) (hnil : A = none → m = 0 ∧ c = 0) (hcells : ∀ p, A = some p → ∀ j u, news[j]? = some u → w.cell? (p.add j) = some u) (hu : ∀ u ∈ news, u.oneCell' = true) (hn : n + m ≤ 17592186044416)
    (h : ∀ v' w', Hid (w'.ownsRow B e 1 v' (n + m) (xs ++ news)) → Hid (Below B w w') → wpList P ops Q rest (a.put o.dst v') w') : wpList P ops Q (o :: rest) a w := by
  obtain ⟨i0, hi, hz0, hz1, hz2⟩ := info_one hi
  cases A with
  | none =>
    obtain ⟨rfl, rfl⟩ := hnil rfl
    obtain rfl : news = [] := List.length_eq_zero_iff.1 hl
    refine wpList_append_own_none hgd s x t ho B e i0 1 ht hi v n xs hs hown hx ?_
    have hh := h v w
    rw [List.append_nil, Nat.add_zero] at hh
    exact hh hown (Below.refl _ _)
  | some p =>
    refine wpList_append_own _ hgd s x t ho B e i0 z 1 bytes ht hi hz0 hz1 hz2 hz (by decide) v n xs hs hown p m c news hx (by omega) (hcells p rfl) hu ?_ ?_ hB ?_
    · unfold maxLen
      omega
    · have : (n + m) * bytes ≤ (n + m) * 8 := Nat.mul_le_mul_left _ hby
      omega
    · intro v' w' hown' hgr _
      refine h v' w' hown' ((Below.refl _ _).grown hgr hB ?_)
      intro k hk
      rcases hown with ⟨_, ⟨rfl, _⟩ | ⟨g, cap, cur, rfl, hg, _⟩⟩
      · cases hk
      · injection hk with hk
        subst hk
        exact hg

/-- 'append([]T{}, y...)': what is handed back is of the call's own, and reads as y does. -/
theorem wpList_append_copy {P : Program} {ops : Array Oper} {rest : List Oper} {o : Oper} {a : Act} {Q : Exit → Act → World → Prop} (hgd : o.guard = none) (s x : Operand) (t : TypeId)
    (ho : o.op = .call { callee := .builtin .append, args := #[s, x], argTypes := #[t, t] }) (e : TypeId) (z : Value) (bytes : Nat) (ht : P.underlying t = some (.slice e))
    (hi : (P.info? e).map (fun i => (i.zero, i.size, i.bytes)) = some (some z, 1, bytes)) (hz : z.cells.size = 1) (hby : bytes ≤ 8)
    {w : World} {m c : Nat} {news : List Value} {A : Option Addr} (hs : a.eval s = .slice (some ⟨w.heap.size, 0, none⟩) 0 0) (hx : a.eval x = .slice A m c)
    (hl : news.length = m) (hnil : A = none → m = 0 ∧ c = 0) (hcells : ∀ p, A = some p → ∀ j u, news[j]? = some u → w.cell? (p.add j) = some u) (hu : ∀ u ∈ news, u.oneCell' = true) (hn : m ≤ 17592186044416)
    (h : ∀ v' w', Hid (w'.ownsRow w.heap.size e 1 v' m news) → Hid (Below w.heap.size w w') → wpList P ops Q rest (a.put o.dst v') w') : wpList P ops Q (o :: rest) a (w.alloc (.cells #[] e)) := by
  have bel : Below w.heap.size w (w.alloc (.cells #[] e)) := (Below.refl _ w).alloc (Nat.le_refl _) _
  refine wpList_append_src hgd s x t ho e z bytes ht hi hz hby (B := w.heap.size) (n := 0) (xs := []) hs hx ⟨rfl, .inr ⟨w.heap.size, 0, #[], rfl, Nat.le_refl _, heap_alloc_new w _, Nat.le_refl _, by unfold maxLen; omega, rfl, rfl⟩⟩ (by simp) hl hnil ?_ hu (by omega) ?_
  · intro p hp j u hj
    have hc := hcells p hp j u hj
    have hb : (p.add j).block < w.heap.size := block_lt_of_cell hc
    exact (bel.cell hb).trans hc
  · intro v' w' hown' hbel'
    rw [Nat.zero_add, List.nil_append] at hown'
    exact h v' w' hown' (bel.trans hbel'.out)

/-- A row of the call's own, its cells the limbs f. -/
theorem rd_of_row {w : World} {B n : Nat} {v : Value} {f : Nat → Nat} (h : w.ownsRow B 70 1 v n ((List.range n).map fun j => Value.int .u32 (f j : Int))) (hmax : n ≤ 140737488355328) (hlt : ∀ j, f j < 4294967296) (hout : ∀ j, n ≤ j → f j = 0) :
    ∃ A c, v = .slice A n c ∧ Rd w w.heap.size A n c f := by
  obtain ⟨_, hor⟩ := h
  rcases hor with ⟨rfl, rfl⟩ | ⟨g, cap, cur, rfl, hg, hh, hn, hc, hs, ht⟩
  · exact ⟨none, 0, rfl, ⟨Nat.le_refl _, hmax, hlt, hout, fun h => absurd h (by omega)⟩⟩
  · refine ⟨some ⟨g, 0, none⟩, cap, rfl, ⟨hn, hmax, hlt, hout, fun _ => ⟨g, 0, rfl, lt_of_heap hh, fun j hj => ?_⟩⟩⟩
    rw [Nat.zero_add, cell_of_row w g j cur 70 (0, 0) hh, ← Array.getElem?_toList]
    have e : ((List.range n).map fun j => Value.int .u32 (f j : Int))[j]? = some (.int .u32 (f j : Int)) := by simp [hj]
    rw [← ht, List.getElem?_take, Nat.mul_one, if_pos hj] at e
    exact e

theorem cells_of_rd {w : World} {B n c : Nat} {A : Option Addr} {f : Nat → Nat} (h : Rd w B A n c f) : ∀ p, A = some p → ∀ (j : Nat) (u : Value), ((List.range n).map fun j => Value.int .u32 (f j : Int))[j]? = some u → w.cell? (p.add j) = some u := by
  intro p hp j u hj
  have hjn : j < n := by
    rcases Nat.lt_or_ge j n with h | h
    · exact h
    · rw [List.getElem?_eq_none (by simpa using h)] at hj; cases hj
  obtain ⟨b, off, rfl, _, hc⟩ := h.at_ (by omega)
  injection hp with hp
  subst hp
  simp [hjn] at hj
  subst hj
  have : (⟨b, off, none⟩ : Addr).add j = ⟨b, off + j, none⟩ := by unfold Addr.add; simp
  rw [this]
  exact hc j hjn


end Go.Proofs.Ytdcolnipdipkhaa


namespace Go.Proofs.Ytdcolnipdipkhaa
set_option maxRecDepth 100000
open Go.RowKit

set_option maxHeartbeats 1600000 in
theorem emay_any {A : Option Addr} {n c : Nat} {f : Nat → Nat} {w : World} (h : Rd w w.heap.size A n c f) (s : Bool) (x : Int) :
    Calls Try.prog 47 #[.agg #[.bool s, .slice A n c, .int .i64 x]] w fun e w' => e = .returned (.bool (decide (DMay s n f x))) ∧ Hid (Below w.heap.size w w') := by
  have bel : Below w.heap.size w (w.alloc (.cells #[.bool s, .slice A n c, .int .i64 x] 25)) := (Below.refl _ w).alloc (Nat.le_refl _) _
  have Cc := hid (May_any (h.below bel))
  have Hb := hid bel
  have hm := h.max
  have hcap := h.cap
  by_cases hf : Fit n f
  · rw [bool_of_dec hf] at Cc
    by_cases hx0 : x < 0
    · rw [bool_of_not (fun h : DMay s n f x => by have := h.2.1; omega)]
      clear h hf bel
      go_enter Try.func47, Try.ntmps47
      go_wp2_with fail
      refine Cc.out.mono ?_
      rintro e w' ⟨rfl, rfl⟩
      go_wp2
      go_ret
      exact ⟨rfl, Hb⟩
    · by_cases hx1 : 1024 < x
      · rw [bool_of_not (fun h : DMay s n f x => by have := h.2.2.1; omega)]
        clear h hf bel
        go_enter Try.func47, Try.ntmps47
        go_wp2_with fail
        refine Cc.out.mono ?_
        rintro e w' ⟨rfl, rfl⟩
        go_wp2
        go_ret
        exact ⟨rfl, Hb⟩
      · rcases Nat.eq_zero_or_pos n with h0 | h0
        · subst h0
          have hf0 := h.out 0 (Nat.le_refl _)
          by_cases hz : x = 0
          · subst hz
            cases s with
            | true =>
              rw [bool_of_not (fun h : DMay true 0 f 0 => by have := h.2.2.2.1 rfl; cases this)]
              clear h hf bel
              go_enter Try.func47, Try.ntmps47
              go_wp2_with fail
              refine Cc.out.mono ?_
              rintro e w' ⟨rfl, rfl⟩
              go_wp2
              go_ret
              exact ⟨rfl, Hb⟩
            | false =>
              rw [bool_of_dec (show DMay false 0 f 0 from ⟨hf, by omega, by omega, fun _ => rfl, fun h => absurd h (by omega)⟩)]
              clear h hf bel
              go_enter Try.func47, Try.ntmps47
              go_wp2_with fail
              refine Cc.out.mono ?_
              rintro e w' ⟨rfl, rfl⟩
              go_wp2
              go_ret
              exact ⟨rfl, Hb⟩
          · rw [bool_of_not (fun h : DMay s 0 f x => by have := h.2.2.2.2 (by omega); rw [hf0] at this; cases this)]
            have hz2 : (x == 0) = false := by simp [hz]
            clear h hf bel hz
            go_enter Try.func47, Try.ntmps47
            go_wp2_with fail
            refine Cc.out.mono ?_
            rintro e w' ⟨rfl, rfl⟩
            go_wp2
            go_ret
            exact ⟨rfl, Hb⟩
        · have hn0 : ((n : Int) == 0) = false := by simp; omega
          by_cases hz : x = 0
          · subst hz
            rw [bool_of_dec (show DMay s n f 0 from ⟨hf, by omega, by omega, fun h => by omega, fun h => absurd h (by omega)⟩)]
            clear h hf bel
            go_enter Try.func47, Try.ntmps47
            go_wp2_with fail
            refine Cc.out.mono ?_
            rintro e w' ⟨rfl, rfl⟩
            go_wp2
            go_ret
            exact ⟨rfl, Hb⟩
          · have hz2 : (x == 0) = false := by simp [hz]
            obtain ⟨b, off, rfl, hbB, hc⟩ := h.at_ h0
            have x0 := (bel.cell (p := ⟨b, off + 0, none⟩) hbB).trans (hc 0 h0)
            rw [Nat.add_zero] at x0
            by_cases hp : f 0 % 2 = 1
            · rw [bool_of_dec (show DMay s n f x from ⟨hf, by omega, by omega, fun h => by omega, fun _ => hp⟩)]
              generalize f 0 = y at *
              have hp2 : ((y : Int) % 2 == 1) = true := by simp; omega
              clear h hf bel hz hp hc
              go_enter Try.func47, Try.ntmps47
              go_wp2_with fail
              refine Cc.out.mono ?_
              rintro e w' ⟨rfl, rfl⟩
              go_wp2
              go_ret
              exact ⟨rfl, Hb⟩
            · rw [bool_of_not (fun h : DMay s n f x => hp (h.2.2.2.2 (by omega)))]
              generalize f 0 = y at *
              have hp2 : ((y : Int) % 2 == 1) = false := by simp; omega
              clear h hf bel hz hp hc
              go_enter Try.func47, Try.ntmps47
              go_wp2_with fail
              refine Cc.out.mono ?_
              rintro e w' ⟨rfl, rfl⟩
              go_wp2
              go_ret
              exact ⟨rfl, Hb⟩
  · rw [bool_of_not hf] at Cc
    rw [bool_of_not (fun h : DMay s n f x => hf h.1)]
    clear h hf bel
    go_enter Try.func47, Try.ntmps47
    go_wp2_with fail
    refine Cc.out.mono ?_
    rintro e w' ⟨rfl, rfl⟩
    go_wp2
    go_ret
    exact ⟨rfl, Hb⟩

set_option maxHeartbeats 3200000 in
theorem esame_raw {w : World} {A D : Option Addr} {n c k d : Nat} {f h : Nat → Nat} {s t : Bool} {x y : Int} {P : Prop} (ha : Rd w w.heap.size A n c f) (hb : Rd w w.heap.size D k d h) (HP : Hid (P ↔ (s = t ∧ x = y ∧ n = k ∧ ∀ j, f j = h j))) :
    Calls Try.prog 39 #[.agg #[.bool s, .slice A n c, .int .i64 x], .agg #[.bool t, .slice D k d, .int .i64 y]] w (Says w P) := by
  have B0 := hid (((Below.refl w.heap.size w).alloc (Nat.le_refl _) (.cells #[.bool s, .slice A n c, .int .i64 x] 25)).alloc (by simp) (.cells #[.bool t, .slice D k d, .int .i64 y] 25))
  have C1 := hid (rsame_any (ha.below B0.out) (hb.below B0.out))
  clear ha hb
  by_cases hst : s = t
  · subst hst
    by_cases hxy : x = y
    · subst hxy
      have HP2 : Hid (P ↔ (n = k ∧ ∀ j, f j = h j)) := ⟨fun p => (HP.out.1 p).2.2, fun q => HP.out.2 ⟨rfl, rfl, q⟩⟩
      clear HP
      go_enter Try.func39, Try.ntmps39
      go_wp2_with fail
      refine C1.out.mono ?_
      rintro e w1 ⟨r, rfl, hr, q, rfl⟩
      have Hr := hid hr
      clear hr
      go_wp2
      go_ret
      exact ⟨r, rfl, ⟨fun h => HP2.out.2 (Hr.out.1 h), fun h => Hr.out.2 (HP2.out.1 h)⟩, below_drewN B0.out q⟩
    · have hxy2 : (x == y) = false := by simp [hxy]
      have Hxy := hid hxy
      clear hxy C1
      go_enter Try.func39, Try.ntmps39
      go_wp2
      go_ret
      exact ⟨false, rfl, ⟨fun h => (by cases h), fun h => absurd (HP.out.1 h).2.1 Hxy.out⟩, B0.out⟩
  · have hst2 : (s == t) = false := by simp [hst]
    have Hst := hid hst
    clear hst C1
    go_enter Try.func39, Try.ntmps39
    go_wp2
    go_ret
    exact ⟨false, rfl, ⟨fun h => (by cases h), fun h => absurd (HP.out.1 h).1 Hst.out⟩, B0.out⟩

/-- A dyad that may be, and is M. -/
def Dv (w : World) (M : Int) (d : Value) : Prop := ∃ s v x V, d = .agg #[.bool s, v, .int .i64 ((x : Nat) : Int)] ∧ Val w V v ∧ Canon s V x ∧ x ≤ 1024 ∧ dv s V x = M
theorem Dn.dv {B : Nat} {w : World} {M : Int} {d : Value} (h : Dn B w M d) : Dv w M d := by
  obtain ⟨s, v, x, V, hd, hn, hc, hx, hM⟩ := h
  exact ⟨s, v, x, V, hd, hn.val, hc, hx, hM⟩
theorem Dv.below {w w' : World} {M : Int} {d : Value} (h : Dv w M d) (hb : Below w.heap.size w w') : Dv w' M d := by
  obtain ⟨s, v, x, V, hd, hn, hc, hx, hM⟩ := h
  exact ⟨s, v, x, V, hd, hn.below hb, hc, hx, hM⟩
theorem Dv.parts {w : World} {M : Int} {d : Value} (h : Dv w M d) : ∃ s A n c x, d = .agg #[.bool s, .slice A n c, .int .i64 x] := by
  obtain ⟨s, u, X, V, rfl, hn, _⟩ := h
  obtain ⟨A, n, c, rfl⟩ := hn.shape
  exact ⟨s, A, n, c, _, rfl⟩
theorem Dv.arg {w : World} {M : Int} {v : Value} (h : Dv w M v) : DArg w True M v := by
  obtain ⟨s, u, X, V, rfl, hn, hc, hX, hd⟩ := h
  obtain ⟨A, n, c, f, rfl, hr, hf, rfl⟩ := hn
  exact ⟨s, A, n, c, f, _, rfl, hr, ⟨fun _ => canon_may hf hc hX, fun _ => trivial⟩, fun _ => ⟨X, rfl, hd.symm⟩⟩
theorem Dv.zero (w : World) : Dv w 0 (.agg #[.bool false, .slice none 0 0, .int .i64 0]) := (Dn.zero 0 w).dv
/-- One number's dyads are the same. -/
theorem esame_dv {w : World} {M N : Int} {v u : Value} (h1 : Dv w M v) (h2 : Dv w N u) (hMN : M = N) :
    Calls Try.prog 39 #[v, u] w fun e w' => e = .returned (.bool true) ∧ Hid (Below w.heap.size w w') := by
  subst hMN
  obtain ⟨s, v, x, V, rfl, hv, hc, hx, hd⟩ := h1
  obtain ⟨t, u, y, U, rfl, hu, hc2, hy, hd2⟩ := h2
  obtain ⟨A, n, c, f, rfl, hr, hf, rfl⟩ := hv
  obtain ⟨D, k, d, h, rfl, hs, hh, rfl⟩ := hu
  obtain ⟨rfl, hV, rfl⟩ := canon_uniq hc hc2 (by omega) (by omega) (hd.trans hd2.symm)
  refine (esame_raw hr hs (P := True) (hid ⟨fun _ => ⟨rfl, rfl, hr.same hs hf.2 hh.2 hV⟩, fun _ => trivial⟩)).mono ?_
  rintro e w' ⟨r, rfl, Hr, Hb⟩
  rw [Hr.out.2 trivial]
  exact ⟨rfl, Hb⟩

theorem Mk.far {w : World} {e : TypeId} {B g n c : Nat} {A : Option Addr} {f : Nat → Nat} (h : Mk w e B A n c f) (hg : g < B) (j : Nat) (u : Value) : Mk (w.setCell ⟨g, j, none⟩ u) e B A n c f :=
  ⟨h.cap, h.max, h.lt, h.out, by
    rcases h.own with h0 | ⟨b, cs, hA, hB, hh, hs, hc⟩
    · exact .inl h0
    · exact .inr ⟨b, cs, hA, hB, (Below.heap_setCell w ⟨g, j, none⟩ u b (by show b ≠ g; omega)).trans hh, hs, hc⟩⟩
theorem Mk.put3 {w : World} {e : TypeId} {B g n c : Nat} {A : Option Addr} {f : Nat → Nat} {s : Bool} {u : Value} {x : Int} (h : Mk w e B A n c f) (hg : g < B) : Mk (put3 w g s u x) e B A n c f := ((h.far hg 0 _).far hg 1 _).far hg 2 _
theorem Dbox.set1 {w : World} {g : Nat} {s : Bool} {v : Value} {x : Int} (h : Dbox w g s v x) (u : Value) : Dbox (w.setCell ⟨g, 1, none⟩ u) g s u x := heap_setCell_same w g 1 _ _ u h
theorem Dbox.set0 {w : World} {g : Nat} {s : Bool} {v : Value} {x : Int} (h : Dbox w g s v x) (t : Bool) : Dbox (w.setCell ⟨g, 0, none⟩ (.bool t)) g t v x := heap_setCell_same w g 0 _ _ (.bool t) h
theorem Dbox.far {w : World} {g k : Nat} {s : Bool} {v : Value} {x : Int} (h : Dbox w g s v x) (hk : g ≠ k) (j : Nat) (u : Value) : Dbox (w.setCell ⟨k, j, none⟩ u) g s v x := (Below.heap_setCell w ⟨k, j, none⟩ u g hk).trans h
/-- A row of the call's own, its cells the limbs f. -/
theorem mk_of_row {w : World} {B n : Nat} {v : Value} {f : Nat → Nat} (h : w.ownsRow B 70 1 v n ((List.range n).map fun j => Value.int .u32 (f j : Int))) (hmax : n ≤ 140737488355328) (hlt : ∀ j, f j < 4294967296) (hout : ∀ j, n ≤ j → f j = 0) :
    ∃ A c, v = .slice A n c ∧ Mk w 70 B A n c f := by
  obtain ⟨_, hor⟩ := h
  rcases hor with ⟨rfl, rfl⟩ | ⟨g, cap, cur, rfl, hg, hh, hn, hc, hs, ht⟩
  · exact ⟨none, 0, rfl, ⟨Nat.le_refl _, hmax, hlt, hout, .inl ⟨rfl, rfl, rfl⟩⟩⟩
  · refine ⟨some ⟨g, 0, none⟩, cap, rfl, ⟨hn, hmax, hlt, hout, .inr ⟨g, cur, rfl, hg, hh, by omega, fun j hj => ?_⟩⟩⟩
    rw [← Array.getElem?_toList]
    have e : ((List.range n).map fun j => Value.int .u32 (f j : Int))[j]? = some (.int .u32 (f j : Int)) := by simp [hj]
    rw [← ht, List.getElem?_take, Nat.mul_one, if_pos hj] at e
    exact e

/-- Limbs stay when a dyad's block is written. -/
theorem Rd.stay {w : World} {n c g : Nat} {A : Option Addr} {f : Nat → Nat} {s t : Bool} {D : Option Addr} {m d : Nat} {x y : Int} {u : Value} (h : Rd w w.heap.size A n c f) (hg : Dbox w g s (.slice D m d) x) : Rd (put3 w g t u y) (put3 w g t u y).heap.size A n c f := by
  refine ⟨h.cap, h.max, h.lt, h.out, fun hn => ?_⟩
  obtain ⟨b, off, rfl, hB, hc⟩ := h.at_ hn
  have hne : b ≠ g := by
    rintro rfl
    have h0 := hc 0 hn
    rw [Nat.add_zero, cell_of_row w b off _ _ (0, 0) hg] at h0
    match off, h0 with
    | 0, h0 => simp at h0
    | 1, h0 => simp at h0
    | 2, h0 => simp at h0
    | k + 3, h0 => simp at h0
  refine ⟨b, off, rfl, by simpa [put3, World.setCell] using hB, fun j hj => ?_⟩
  rw [← hc j hj]
  exact World.cell?_of_block ((Below.heap_setCell _ ⟨g, 2, none⟩ _ b hne).trans ((Below.heap_setCell _ ⟨g, 1, none⟩ _ b hne).trans (Below.heap_setCell w ⟨g, 0, none⟩ _ b hne)))

set_option maxHeartbeats 1600000 in
theorem etwin_any {A : Option Addr} {n c : Nat} {f : Nat → Nat} {w : World} (h : Rd w w.heap.size A n c f) (hnil : A = none → n = 0 ∧ c = 0) (hn : n ≤ 42) (s : Bool) (x : Int) :
    Calls Try.prog 23 #[.agg #[.bool s, .slice A n c, .int .i64 x]] w fun e w' => ∃ A' c', e = .returned (.agg #[.bool s, .slice A' n c', .int .i64 x]) ∧ Hid (Mk w' 70 w.heap.size A' n c' f) ∧ Hid (Below w.heap.size w w') := by
  have B0 := hid (((Below.refl w.heap.size w).alloc (Nat.le_refl _) (.cells #[.bool s, .slice A n c, .int .i64 x] 25)).alloc (by simp) (.cells #[.bool false, .slice none 0 0, .int .i64 0] 25))
  have P1 : Hid (Dbox _ (w.heap.size + 1) false (.slice none 0 0) 0) := heap_alloc2_new w (.cells #[.bool s, .slice A n c, .int .i64 x] 25) (.cells #[.bool false, .slice none 0 0, .int .i64 0] 25)
  have P0 : Hid (Dbox _ w.heap.size s (.slice A n c) x) := (Below.heap_alloc _ (.cells #[.bool false, .slice none 0 0, .int .i64 0] 25) _ (by simp)).trans (heap_alloc_new w (.cells #[.bool s, .slice A n c, .int .i64 x] 25))
  have Hcells := hid (cells_of_rd (h.below B0.out))
  have Hnil := hid hnil
  have H := hid h
  have hm := h.max
  clear h hnil
  obtain ⟨W, hW⟩ : ∃ W, W = (w.alloc (.cells #[.bool s, .slice A n c, .int .i64 x] 25)).alloc (.cells #[.bool false, .slice none 0 0, .int .i64 0] 25) := ⟨_, rfl⟩
  have HS : Hid (w.heap.size + 2 = W.heap.size) := by rw [hW]; simp [Hid]
  have HW := hid hW
  rw [← hW] at B0 P1 P0 Hcells
  clear hW
  go_enter Try.func23, Try.ntmps23
  go_upto_region 1 with fail
  rw [← HW.out]
  have a1 := (P0.out.alloc (.cells #[] 70)).c1
  go_wp2_with
    (at_builtin
     refine wpList_append_copy rfl (.tmp 3) (.tmp 5) 23 rfl 70 (.int .u32 0) 4 Try.underlying23 info_u32 rfl (by decide) rfl rfl (by simp) Hnil.out Hcells.out (by simp; intros; subst_vars; rfl) (by omega) ?_
     intro v1 w1 hown1 hbel1
     obtain ⟨A1, c1, rfl, hr1⟩ := mk_of_row hown1.out hm H.out.lt H.out.out
     have P0 := hid (P0.out.below hbel1.out P0.out.lt)
     have P1 := hid (P1.out.below hbel1.out P1.out.lt)
     have B1 := hid (B0.out.trans (hbel1.out.mono B0.out.size))
     have M1 := hid ((hr1.far (g := w.heap.size) (by have := HS.out; omega) 1 (.slice A1 n c1)))
     have b1 := P0.out.frozen 1
     have b2 := P0.out.c1
     have P0 := hid (P0.out.set1 (.slice A1 n c1))
     have P1 := hid (P1.out.far (k := w.heap.size) (by omega) 1 (.slice A1 n c1))
     have B1 := hid (B1.out.setCell (p := ⟨w.heap.size, 1, none⟩) (Nat.le_refl _) (.slice A1 n c1))
     have g0 := P1.out.frozen 0
     have g1 := P1.out.frozen 1
     have g2 := P1.out.frozen 2
     have e0 := P1.out.c0
     have e1 := P1.out.c1
     have e2 := P1.out.c2
     have d0 := P0.out.c0
     have d1 := P0.out.c1
     have d2 := P0.out.c2
     clear a1 hown1 hbel1)
  refine ret_one rfl rfl rfl (P1.out.store (t := s) (u := .slice A1 n c1) (y := x)) ?_
  exact ⟨_, _, rfl, (M1.out.put3 (by have := HS.out; omega)).mono (by have := HS.out; omega), below_put3 B1.out (by omega)⟩

end Go.Proofs.Ytdcolnipdipkhaa

