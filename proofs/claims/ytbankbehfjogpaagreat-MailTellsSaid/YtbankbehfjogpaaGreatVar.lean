/- The document's Of: words. -/
/- The document's Twin of a mail. -/
/- slices.Clone over tags and over descriptors, of a mail. -/
/- Package mail: Twin. -/
import Derived.Test.YtbankbehfjogpaaGreatVai
import Derived.Test.YtbankbehfjogpaaGreatVap
import Derived.Test.YtbankbehfjogpaaGreatVaq
import Derived.Test.YtbankbehfjogpaaGreatVam
import Derived.Test.YtbankbehfjogpaaGreatVac
import Derived.Test.YtbankbehfjogpaaGreatVae
import Derived.Laws.Cover3
namespace Go.Proofs.YtbankbehfjogpaaGreat
open Go.RowKit Go.Shelf Go.Lib
set_option maxRecDepth 100000
def Rdb (w : World) (g : Nat) (A : Option Addr) (n c : Nat) (st : Option Nat) : Prop := w.heap[g]? = some (.cells (rdc A n c st) 106 (0, 0))
section
variable {w w' : World} {g B n c : Nat} {A : Option Addr} {st : Option Nat}
theorem Rdb.lt (h : Rdb w g A n c st) : g < w.heap.size := lt_of_heap h
theorem Rdb.below (h : Rdb w g A n c st) (hb : Below B w w') (hg : g < B) : Rdb w' g A n c st := (hb.block g hg).trans h
end
theorem Wq.pbox {g b : Nat} {X Y : World} {m : Md} (h : Wq g X Y) (hp : Pbox X b m) (hn : b ≠ g) : Pbox Y b m := (h.block b hn).trans hp
theorem Wq.rdb {g b : Nat} {X Y : World} {A : Option Addr} {n c : Nat} {st : Option Nat} (h : Wq g X Y) (hp : Rdb X b A n c st) (hn : b ≠ g) : Rdb Y b A n c st := (h.block b hn).trans hp
theorem rdc_size3 (A : Option Addr) (n c : Nat) (st : Option Nat) : (rdc A n c st).size = 3 := by cases st <;> rfl
theorem rdc_size (A : Option Addr) (n c : Nat) (st tt : Option Nat) : (rdc A n c st).size = (rdc A n c tt).size := by rw [rdc_size3, rdc_size3]
theorem rdc_one (A : Option Addr) (n c : Nat) (st : Option Nat) : (rdc A n c st).all (·.oneCell') = true := by
  cases st with
  | none => exact all_oneCell_toArray (cs := [.slice none 0 0, .int .i64 0, .bool false]) (by intro v hv; simp only [List.mem_cons, List.not_mem_nil, or_false] at hv; rcases hv with rfl | rfl | rfl <;> rfl)
  | some q => exact all_oneCell_toArray (cs := [.slice A n c, .int .i64 (q : Int), .bool true]) (by intro v hv; simp only [List.mem_cons, List.not_mem_nil, or_false] at hv; rcases hv with rfl | rfl | rfl <;> rfl)
theorem dyad_one (d : Dy) : (#[.bool d.s, .slice d.A d.n d.c, .int .i64 d.x] : Array Value).all (·.oneCell') = true :=
  all_oneCell_toArray (cs := [.bool d.s, .slice d.A d.n d.c, .int .i64 d.x]) (by intro v hv; simp only [List.mem_cons, List.not_mem_nil, or_false] at hv; rcases hv with rfl | rfl | rfl <;> rfl)
theorem wp_rload {ops : Array Oper} {rest : List Oper} {o : Oper} {a : Act} {w : World} {Q : Exit → Act → World → Prop} (hgd : o.guard = none) (x : Operand) (ho : o.op = .load 106 x)
    (g : Nat) {A : Option Addr} {n c : Nat} (st : Option Nat) (hx : a.eval x = .pointer (some ⟨g, 0, none⟩)) (hg : Rdb w g A n c st) (h : wpList Tryz.prog ops Q rest (a.put o.dst (.agg (rdc A n c st))) w) : wpList Tryz.prog ops Q (o :: rest) a w :=
  wpList_load_row hgd _ x ho g hx _ _ _ _ hg Tryz.underlying106 rfl (by rw [rdc_size3]; exact reader_size) h
theorem rn_val {xs : List Nat} (hx : ∀ x ∈ xs, x < 256) (st : Option Nat) (z : Nat) (hz : z ≤ 4) : (Go.Proofs.YtbankbehfjogpaaGreat.rn xs st z).2 < 4294967296 := by
  cases st with
  | none => show 0 < 4294967296; omega
  | some q =>
    unfold Go.Proofs.YtbankbehfjogpaaGreat.rn
    dsimp only
    split
    · have h1 := bn_lt (xs := (xs.drop q).take z) (fun x hx2 => hx x (List.mem_of_mem_drop (List.mem_of_mem_take hx2)))
      have h2 : (256 : Nat) ^ ((xs.drop q).take z).length ≤ 256 ^ 4 := Nat.pow_le_pow_right (by omega) (by rw [List.length_take]; omega)
      have h3 : (256 : Nat) ^ 4 = 4294967296 := by decide
      show bn ((xs.drop q).take z) < 4294967296
      omega
    · show 0 < 4294967296; omega
theorem rdy_ok {xs : List Nat} (hx : ∀ x ∈ xs, x < 256) {st : Option Nat} (h : Rok xs st) : Rok xs (rdy xs st).2 := by
  intro q hq
  cases st with
  | none => cases hq
  | some p =>
    unfold rdy at hq
    dsimp only at hq
    split at hq
    · rename_i hd
      injection hq with hq
      have h3 := (dyad_tight (ys := xs.drop p) (fun x hx2 => hx x (List.mem_of_mem_drop hx2)) hd).2.2
      have := h p rfl
      rw [List.length_drop] at h3
      omega
    · cases hq
theorem rnD_all {xs : List Nat} (hx : ∀ x ∈ xs, x < 256) {st : Option Nat} (h : Rok xs st) {z v : Nat} {s : Option Nat} (hz : z ≤ 4) (e : rnD xs st z = (v, s)) : (Go.Proofs.YtbankbehfjogpaaGreat.rn xs st z).1 = s ∧ (Go.Proofs.YtbankbehfjogpaaGreat.rn xs st z).2 = v ∧ Rok xs s ∧ v < 4294967296 := by
  have e1 : (Go.Proofs.YtbankbehfjogpaaGreat.rn xs st z).1 = s := congrArg Prod.snd e
  have e2 : (Go.Proofs.YtbankbehfjogpaaGreat.rn xs st z).2 = v := congrArg Prod.fst e
  exact ⟨e1, e2, e1 ▸ h.rn z, e2 ▸ rn_val hx st z hz⟩
theorem rdD_all {xs : List Nat} (hx : ∀ x ∈ xs, x < 256) {st : Option Nat} (h : Rok xs st) {v : Ddy} {s : Option Nat} (e : rdD xs st = (v, s)) : (rdy xs st).2 = s ∧ (rdy xs st).1 = v ∧ Rok xs s := by
  have e0 : rdy xs st = (v, s) := e
  have e1 : (rdy xs st).2 = s := congrArg Prod.snd e0
  exact ⟨e1, congrArg Prod.fst e0, e1 ▸ rdy_ok hx h⟩
theorem wp_dyad_k {ops : Array Oper} {rest : List Oper} {o : Oper} {a : Act} {w : World} {Q : Exit → Act → World → Prop} (hgd : o.guard = none) (x y : Operand) (ho : o.op = .store 24 x y)
    (g j : Nat) (D : Dy) (p m : Md) (hx : a.eval x = .pointer (some ⟨g, j, none⟩)) (hy : a.eval y = .agg #[.bool D.s, .slice D.A D.n D.c, .int .i64 D.x]) (hg : Pbox w g p) (hj : j + 3 ≤ 24)
    (e : (((mdc p).setIfInBounds j (.bool D.s)).setIfInBounds (j + 1) (.slice D.A D.n D.c)).setIfInBounds (j + 2) (.int .i64 D.x) = mdc m)
    (h : ∀ w', Pbox w' g m → Wq g w w' → wpList Tryz.prog ops Q rest (a.put o.dst undef) w') : wpList Tryz.prog ops Q (o :: rest) a w :=
  wpList_store_mid hgd _ x y ho g j #[.bool D.s, .slice D.A D.n D.c, .int .i64 D.x] hx hy (fun i hi => by
    refine ⟨?_, hg.frozen (j + i)⟩
    rw [cell_of_row w g (j + i) _ _ (0, 0) hg]
    have h1 : j + i < (mdc p).size := by have : i < 3 := hi; show j + i < 24; omega
    simp [h1]) (dyad_size_ D) (dyad_one D) (h _ (by
      have := heap_setCell_same _ g (j + 2) _ _ (.int .i64 D.x) (heap_setCell_same _ g (j + 1) _ _ (.slice D.A D.n D.c) (heap_setCell_same w g j _ _ (.bool D.s) hg))
      rw [e] at this
      exact this) (Wq.set g _ j w))
structure Hi (L : Nat) (X Y : World) : Prop where
  size : X.heap.size ≤ Y.heap.size
  block : ∀ b, L ≤ b → b < X.heap.size → Y.heap[b]? = X.heap[b]?
theorem Hi.bel {L : Nat} {X Y : World} (h : Below X.heap.size X Y) : Hi L X Y := ⟨h.size, fun b _ hb => h.block b hb⟩
theorem Hi.wq {L g : Nat} {X Y Z : World} (h : Hi L X Y) (hw : Wq g Y Z) (hg : g < L) : Hi L X Z := ⟨Nat.le_trans h.size (Nat.le_of_eq hw.size), fun b hb hx => (hw.block b (by omega)).trans (h.block b hb hx)⟩
theorem Hi.trans {L : Nat} {X Y Z : World} (h : Hi L X Y) (k : Hi L Y Z) : Hi L X Z := ⟨Nat.le_trans h.size k.size, fun b hb hx => (k.block b hb (Nat.lt_of_lt_of_le hx h.size)).trans (h.block b hb hx)⟩
theorem Hi.mono {L M : Nat} {X Y : World} (h : Hi L X Y) (hm : L ≤ M) : Hi M X Y := ⟨h.size, fun b hb hx => h.block b (Nat.le_trans hm hb) hx⟩
theorem Hi.refl (L : Nat) (X : World) : Hi L X X := ⟨Nat.le_refl _, fun _ _ _ => rfl⟩
theorem Mk.hi {X Y : World} {L n c : Nat} {A : Option Addr} {f : Nat → Nat} (h : Mk X 75 L A n c f) (hi : Hi L X Y) : Mk Y 75 L A n c f :=
  ⟨h.cap, h.max, h.lt, h.out, h.own.imp id (by
    rintro ⟨b, cs, hA, hb, hh, hs, hc⟩
    exact ⟨b, cs, hA, hb, (hi.block b hb (lt_of_heap hh)).trans hh, hs, hc⟩)⟩
theorem Od.hi {X Y : World} {L : Nat} {v : Value} {l : List De} (h : Od X L v l) (hi : Hi L X Y) : Od Y L v l := by
  refine ⟨⟨h.own.1, ?_⟩, h.max⟩
  rcases h.own.2 with h0 | ⟨k, cap, cur, e, hk, hh, hr⟩
  · exact .inl h0
  · exact .inr ⟨k, cap, cur, e, hk, (hi.block k hk (lt_of_heap hh)).trans hh, hr⟩
theorem Ot.hi {X Y : World} {L : Nat} {v : Value} {l : List Nat} (h : Ot X L v l) (hi : Hi L X Y) : Ot Y L v l := by
  refine ⟨⟨h.own.1, ?_⟩, h.max, h.fit⟩
  rcases h.own.2 with h0 | ⟨k, cap, cur, e, hk, hh, hr⟩
  · exact .inl h0
  · exact .inr ⟨k, cap, cur, e, hk, (hi.block k hk (lt_of_heap hh)).trans hh, hr⟩
theorem Hi.wq' {L g : Nat} {X Y : World} (hw : Wq g X Y) (hg : g < L) : Hi L X Y := (Hi.bel (Below.refl _ X)).wq hw hg
theorem Turned.bel {X Y : World} {L : Nat} {v v' : Value} {l l' : List De} (h : Turned X Y L v v' l') (hO : Od X L v l) (hL : L ≤ X.heap.size) : Below L X Y := by
  refine ⟨h.grown.os, h.grown.tape, h.grown.output, h.grown.size, fun b hb => h.grown.block b (by omega) fun e => ?_⟩
  rcases hO.own.2 with ⟨rfl, _⟩ | ⟨g, cap, cur, rfl, hg, hh, _⟩
  · simp [Value.ownBlock] at e
  · simp [Value.ownBlock] at e
    omega
theorem lisD_none {xs : List Nat} {s : Option Nat} {k : Nat} (h : (lisP (Wdc xs) [] s k).2 = none) : ∀ j, k ≤ j → (lisP (Wdc xs) [] s j).2 = none
  | 0, hj => by obtain rfl : k = 0 := by omega
                exact h
  | j + 1, hj => by
    rcases Nat.lt_or_ge j k with hk | hk
    · obtain rfl : k = j + 1 := by omega
      exact h
    · have ih := lisD_none h j hk
      show (dscP (Wdc xs) (lisP (Wdc xs) [] s j).2 ((([] : List De)[j]?).getD (0, 0))).2 = none
      rw [ih]
      rfl
theorem tgsD_none {xs : List Nat} {s : Option Nat} {k : Nat} (h : (tgsP (Wdc xs) [] s k).2 = none) : ∀ j, k ≤ j → (tgsP (Wdc xs) [] s j).2 = none
  | 0, hj => by obtain rfl : k = 0 := by omega
                exact h
  | j + 1, hj => by
    rcases Nat.lt_or_ge j k with hk | hk
    · obtain rfl : k = j + 1 := by omega
      exact h
    · have ih := tgsD_none h j hk
      show ((Wdc xs).nf (tgsP (Wdc xs) [] s j).2 ((([] : List Nat)[j]?).getD 0) 4).2 = none
      rw [ih]
      rfl
theorem lisD_next {xs : List Nat} {s sk sa sb : Option Nat} {k va vb : Nat} {l : List De} (h : lisP (Wdc xs) [] s k = (l, sk)) (ha : rnD xs sk 1 = (va, sa)) (hb : rnD xs sa 4 = (vb, sb)) : lisP (Wdc xs) [] s (k + 1) = (l ++ [((va : Int), (vb : Int))], sb) := by
  show ((lisP (Wdc xs) [] s k).1 ++ [(((rnD xs (lisP (Wdc xs) [] s k).2 1).1 : Int), ((rnD xs (rnD xs (lisP (Wdc xs) [] s k).2 1).2 4).1 : Int))], (rnD xs (rnD xs (lisP (Wdc xs) [] s k).2 1).2 4).2) = _
  rw [h]
  dsimp only
  rw [ha]
  dsimp only
  rw [hb]
theorem tgsD_next {xs : List Nat} {s sk sa : Option Nat} {k va : Nat} {l : List Nat} (h : tgsP (Wdc xs) [] s k = (l, sk)) (ha : rnD xs sk 4 = (va, sa)) : tgsP (Wdc xs) [] s (k + 1) = (l ++ [va], sa) := by
  show ((tgsP (Wdc xs) [] s k).1 ++ [(rnD xs (tgsP (Wdc xs) [] s k).2 4).1], (rnD xs (tgsP (Wdc xs) [] s k).2 4).2) = _
  rw [h]
  dsimp only
  rw [ha]
theorem beq_one (v : Nat) : ((v : Int) == 1) = decide (v = 1) := by
  by_cases h : v = 1
  · subst h; rfl
  · rw [decide_eq_false h]; simp; omega
theorem rnD_one {xs : List Nat} (hx : ∀ x ∈ xs, x < 256) {st s : Option Nat} {v : Nat} (e : rnD xs st 1 = (v, s)) : v < 256 := by
  have e1 : (Go.Proofs.YtbankbehfjogpaaGreat.rn xs st 1).2 = v := congrArg Prod.fst e
  rw [← e1]
  cases st with
  | none => show 0 < 256; omega
  | some q =>
    unfold Go.Proofs.YtbankbehfjogpaaGreat.rn
    dsimp only
    split
    · have h1 := bn_lt (xs := (xs.drop q).take 1) (fun x hx2 => hx x (List.mem_of_mem_drop (List.mem_of_mem_take hx2)))
      have h2 : (256 : Nat) ^ ((xs.drop q).take 1).length ≤ 256 ^ 1 := Nat.pow_le_pow_right (by omega) (by rw [List.length_take]; omega)
      show bn ((xs.drop q).take 1) < 256
      omega
    · show 0 < 256; omega
theorem range_get (l : List Nat) : (List.range l.length).map (fun j => (l[j]?).getD 0) = l := by
  apply List.ext_getElem?
  intro j
  rcases Nat.lt_or_ge j l.length with hj | hj
  · rw [List.getElem?_map, List.getElem?_range hj, List.getElem?_eq_getElem hj]
    show some ((l[j]?).getD 0) = _
    rw [List.getElem?_eq_getElem hj]
    rfl
  · rw [List.getElem?_eq_none (by simpa using hj), List.getElem?_eq_none hj]
theorem od_wq {X Y : World} {L g : Nat} {v : Value} {l : List De} (h : Od X L v l) (hn : ¬ v.ownBlock = some g) (hw : Wq g X Y) : Od Y L v l := by
  refine ⟨⟨h.own.1, ?_⟩, h.max⟩
  rcases h.own.2 with h0 | ⟨k, cap, cur, e, hk, hh, hr⟩
  · exact .inl h0
  · exact .inr ⟨k, cap, cur, e, hk, (hw.block k (by rintro rfl; subst e; exact hn rfl)).trans hh, hr⟩
theorem od_no {X : World} {L g : Nat} {v : Value} {l : List De} (h : Od X L v l) (hg : X.heap.size ≤ g) : ¬ v.ownBlock = some g := by
  rcases h.own.2 with ⟨rfl, _⟩ | ⟨k, cap, cur, rfl, hk, hh, hr⟩
  · simp [Value.ownBlock]
  · intro e
    have : k = g := by simpa [Value.ownBlock] using e
    have := lt_of_heap hh
    omega
theorem ddy_dv {D : Dy} {d : Ddy} (h : DV D d) : ddy D = d ∧ 0 ≤ D.x := ⟨dy_ext h.1 h.2.1 (fun j => by rw [← h.2.2.1]; rfl) (by have := h.2.2.2; show D.x.toNat = d.x; omega), by have := h.2.2.2; omega⟩
theorem ddy_d0 : ddy d0 = d0z := rfl
theorem x_of4 {a b c d : Dy} (h0 : 0 ≤ a.x) (h1 : 0 ≤ b.x) (h2 : 0 ≤ c.x) (h3 : 0 ≤ d.x) : ∀ k, k < 4 → 0 ≤ ((of4 a b c d) k).x := fun k hk => by
  have hc : k = 0 ∨ k = 1 ∨ k = 2 ∨ k = 3 := by omega
  rcases hc with rfl | rfl | rfl | rfl
  · exact h0
  · exact h1
  · exact h2
  · exact h3
theorem mrd_of4 {w : World} {B : Nat} {a b c d : Dy} (h0 : Rd w B a.A a.n a.c a.f) (h1 : Rd w B b.A b.n b.c b.f) (h2 : Rd w B c.A c.n c.c c.f) (h3 : Rd w B d.A d.n d.c d.f) : Mrd w B (of4 a b c d) := fun k hk => by
  have hc : k = 0 ∨ k = 1 ∨ k = 2 ∨ k = 3 := by omega
  rcases hc with rfl | rfl | rfl | rfl
  · exact h0
  · exact h1
  · exact h2
  · exact h3
structure Ev (w X : World) (A : Option Addr) (n c : Nat) (st : Option Nat) (m : Md) : Prop where
  p4 : Pbox X w.heap.size (Mz 0)
  p6 : Pbox X (w.heap.size + 1) m
  r7 : Rdb X (w.heap.size + 1 + 1) A n c st
  b0 : Below w.heap.size w X
  s1 : w.heap.size + 1 + 1 < X.heap.size
section
variable {w X Y : World} {A : Option Addr} {n c : Nat} {st st' : Option Nat} {m m' : Md}
theorem Ev.on (h : Ev w X A n c st m) (hb : Below X.heap.size X Y) : Ev w Y A n c st m :=
  ⟨h.p4.below hb h.p4.lt, h.p6.below hb h.p6.lt, h.r7.below hb h.r7.lt, h.b0.trans (hb.mono h.b0.size), Nat.lt_of_lt_of_le h.s1 hb.size⟩
theorem Ev.rd (h : Ev w X A n c st m) (hw : Wq (w.heap.size + 1 + 1) X Y) (q : Rdb Y (w.heap.size + 1 + 1) A n c st') : Ev w Y A n c st' m :=
  ⟨hw.pbox h.p4 (by omega), hw.pbox h.p6 (by omega), q, hw.bel h.b0 (by omega), hw.size ▸ h.s1⟩
theorem Ev.ml (h : Ev w X A n c st m) (hw : Wq (w.heap.size + 1) X Y) (q : Pbox Y (w.heap.size + 1) m') : Ev w Y A n c st m' :=
  ⟨hw.pbox h.p4 (by omega), q, hw.rdb h.r7 (by omega), hw.bel h.b0 (by omega), hw.size ▸ h.s1⟩
theorem Ev.far (h : Ev w X A n c st m) {g : Nat} (hw : Wq g X Y) (hg : w.heap.size + 1 + 1 < g) : Ev w Y A n c st m :=
  ⟨hw.pbox h.p4 (by omega), hw.pbox h.p6 (by omega), hw.rdb h.r7 (by omega), hw.bel h.b0 (by omega), hw.size ▸ h.s1⟩
end
theorem wp_rst_k {ops : Array Oper} {rest : List Oper} {o : Oper} {a : Act} {w : World} {Q : Exit → Act → World → Prop} (hgd : o.guard = none) (x y : Operand) (ho : o.op = .store 106 x y)
    {g : Nat} {A : Option Addr} {n c : Nat} {st : Option Nat} (st' : Option Nat) (hx : a.eval x = .pointer (some ⟨g, 0, none⟩)) (hy : a.eval y = .agg (rdc A n c st')) (hg : Rdb w g A n c st)
    (h : ∀ w', Rdb w' g A n c st' → Wq g w w' → wpList Tryz.prog ops Q rest (a.put o.dst undef) w') : wpList Tryz.prog ops Q (o :: rest) a w :=
  wp_row_k hgd 106 x y ho g 106 (rdc A n c st) (rdc A n c st') hx hy hg (rdc_size _ _ _ _ _) (by rw [rdc_size3]; kernel_rfl) (rdc_one _ _ _ _) h
theorem wp_fst_k {ops : Array Oper} {rest : List Oper} {o : Oper} {a : Act} {w : World} {Q : Exit → Act → World → Prop} (hgd : o.guard = none) (ty : TypeId) (x y : Operand) (ho : o.op = .store ty x y)
    {g : Nat} {m : Md} (j : Nat) (v : Value) (m' : Md) (hx : a.eval x = .pointer (some ⟨g, j, none⟩)) (hy : a.eval y = v) (h1 : v.oneCell' = true) (hi : (Tryz.prog.info? ty).map (·.size) = some 1) (hg : Pbox w g m) (hj : j < 24)
    (e : (mdc m).setIfInBounds j v = mdc m') (h : ∀ w', Pbox w' g m' → Wq g w w' → wpList Tryz.prog ops Q rest (a.put o.dst undef) w') : wpList Tryz.prog ops Q (o :: rest) a w :=
  wp_cell_k hgd ty x y ho g j v 31 (mdc m) (mdc m') hx hy h1 hi hg hj e h
theorem tkH {P : Program} {md : Region.Mode} {ops : Array Oper} {Q : Exit → Act → World → Prop} {S : World → Prop} {i : Nat} {oi : Oper} {fuel : Nat} {listed : Array Bool} {a : Act} {w : World} (v : Value) (hi : ops[i]? = some oi)
    (hs : (Region.noSelect ops && Region.free md ops listed i && (Region.ready md ops listed).contains i) = true) (hQ : ∀ c a w, Q (.panic c) (a.put oi.dst v) w → Q (.panic c) a w) (hw : Region.wanted oi (yielded ops a.tmps) = true)
    (hy : ∀ w, S w → (execOp a.eval oi).run P w = .ok (.value v) w) (hS : S w) (h : wpAnyH P md ops Q S fuel (listed.setIfInBounds i true) (a.put oi.dst v) w) : wpAnyH P md ops Q S (fuel + 1) listed a w := by
  simp only [Bool.and_eq_true] at hs
  exact wpAnyH_take hi hs.1.1 hs.1.2 hs.2 hQ (Or.inl ⟨hw, hy⟩) hS h
theorem skH {P : Program} {md : Region.Mode} {ops : Array Oper} {Q : Exit → Act → World → Prop} {S : World → Prop} {i : Nat} {oi : Oper} {fuel : Nat} {listed : Array Bool} {a : Act} {w : World} (hi : ops[i]? = some oi)
    (hs : (Region.noSelect ops && Region.free md ops listed i && (Region.ready md ops listed).contains i) = true) (hQ : ∀ c a w, Q (.panic c) (a.put oi.dst undef) w → Q (.panic c) a w) (hw : Region.wanted oi (yielded ops a.tmps) = false)
    (hS : S w) (h : wpAnyH P md ops Q S fuel (listed.setIfInBounds i true) (a.put oi.dst undef) w) : wpAnyH P md ops Q S (fuel + 1) listed a w := by
  simp only [Bool.and_eq_true] at hs
  exact wpAnyH_take hi hs.1.1 hs.1.2 hs.2 hQ (Or.inr ⟨hw, rfl⟩) hS h
def OfRes (w : World) (K : Nat) (xs : List Nat) (e : Ending) (w' : World) : Prop :=
  ∃ m b, e = .returned (.tuple #[.agg (mdc m), .bool b]) ∧ Hid (b = true → ∃ l t, (∀ Y, Hi w.heap.size w' Y → Prd Y Y.heap.size m l t) ∧ PMay m l t ∧ m.kd = K ∧ cont (mlOf m l t) = xs) ∧
    Hid (b = false → m = Mz 0 ∧ ∀ M, MayM M → M.kd = K → cont M ≠ xs) ∧ Hid (Below w.heap.size w w')
theorem of_none {xs : List Nat} {K : Nat} {M' : Ml} (h : alongP (Wdc xs) (some 0) (mz K) = (M', none)) : ∀ M, MayM M → M.kd = K → cont M ≠ xs := fun M hM hk hc => by
  have h2 := along_atD hM.fit
  rw [hc, hk, h] at h2
  exact absurd (congrArg Prod.snd h2) (by simp)
theorem of_some {xs : List Nat} {K : Nat} {M' : Ml} {st : Option Nat} (h : alongP (Wdc xs) (some 0) (mz K) = (M', st)) : ∀ M, MayM M → M.kd = K → cont M = xs → M' = M := fun M hM hk hc => by
  have h2 := along_atD hM.fit
  rw [hc, hk, h] at h2
  exact congrArg Prod.fst h2
theorem ret_of {fn : Func} {R : Ending → World → Prop} {a : Act} {w : World} {q u : Tmp} {g : Nat} {m : Md} {b : Value} (h : fn.results = #[.cell q 31, .tmp u]) (hp : a.tmps.getD q undef = .pointer (some ⟨g, 0, none⟩)) (hu : a.tmps.getD u undef = b)
    (hd : a.defers = []) (hg : Pbox w g m) (hR : R (.returned (.tuple #[.agg (mdc m), b])) w) : bodyPost Tryz.prog fn R .ret a w := ret_mail2 h hp hu hd hg hR
open Go.RowKit Go.Shelf Go.Lib
set_option maxRecDepth 100000
structure Tw (B : Nat) (w : World) (m m' : Md) (l : List De) (t : Nat → Nat) : Prop where
  kd : m'.kd = m.kd
  fr : m'.fr = m.fr
  tu : m'.tu = m.tu
  ep : m'.ep = m.ep
  nu : m'.nu = m.nu
  ab : m'.ab = m.ab
  D : ∀ k, k < 4 → Twd B w (m.D k) (m'.D k)
  wa : m'.wa = m.wa
  ls : Od w B (.slice m'.A m'.n m'.c) l
  n : m'.n = l.length
  ha : m'.ha = m.ha
  mn : m'.mn = m.mn
  mx : m'.mx = m.mx
  tg : Mk w 75 B m'.T m'.k m'.d t
  k : m'.k = m.k
theorem Twd.hi {L : Nat} {X Y : World} {d r : Dy} (h : Twd L X d r) (hi : Hi L X Y) : Twd L Y d r := ⟨h.lim.hi hi, h.s, h.n, h.x, h.f⟩
theorem Tw.hi {L : Nat} {X Y : World} {m m' : Md} {l : List De} {t : Nat → Nat} (h : Tw L X m m' l t) (hi : Hi L X Y) : Tw L Y m m' l t :=
  ⟨h.kd, h.fr, h.tu, h.ep, h.nu, h.ab, fun k hk => (h.D k hk).hi hi, h.wa, h.ls.hi hi, h.n, h.ha, h.mn, h.mx, h.tg.hi hi, h.k⟩
theorem Od.ds2 {w : World} {B n c : Nat} {A : Option Addr} {l : List De} (h : Od w B (.slice A n c) l) (hn : n = l.length) : Ds w w.heap.size A n c l := by
  subst hn
  exact h.ds
theorem Tw.prd {L : Nat} {X : World} {m m' : Md} {l : List De} {t : Nat → Nat} (h : Tw L X m m' l t) (hk : m.kd < 256) : Prd X X.heap.size m' l t :=
  ⟨by rw [h.kd]; exact hk, fun k hk => (h.D k hk).lim.rd, h.ls.ds2 h.n, h.tg.rd⟩
theorem Tw.ml {L : Nat} {X : World} {m m' : Md} {l : List De} {t : Nat → Nat} (h : Tw L X m m' l t) : mlOf m' l t = mlOf m l t := by
  have dd : ∀ k, k < 4 → ddy (m'.D k) = ddy (m.D k) := fun k hk => dy_ext (h.D k hk).s (h.D k hk).n (fun j => by show (m'.D k).f j = (m.D k).f j; rw [(h.D k hk).f]) (by show (m'.D k).x.toNat = (m.D k).x.toNat; rw [(h.D k hk).x])
  exact ml_ext h.kd h.fr h.tu h.ep h.nu h.ab (dd 0 (by omega)) (dd 1 (by omega)) (dd 2 (by omega)) (dd 3 (by omega)) h.wa rfl h.ha h.mn h.mx (by show (List.range m'.k).map t = (List.range m.k).map t; rw [h.k])
theorem mass_put (m : Md) (R : Nat → Dy) : ∀ k, k < (mdc m).size → (mdc ⟨m.kd, m.fr, m.tu, m.ep, m.nu, m.ab, R, m.wa, m.A, m.n, m.c, m.ha, m.mn, m.mx, m.T, m.k, m.d⟩)[k]? = if 6 ≤ k ∧ k < 6 + (mcells R).size then (mcells R)[k - 6]? else (mdc m)[k]?
  | 0, _ => rfl | 1, _ => rfl | 2, _ => rfl | 3, _ => rfl | 4, _ => rfl | 5, _ => rfl | 6, _ => rfl | 7, _ => rfl | 8, _ => rfl | 9, _ => rfl | 10, _ => rfl | 11, _ => rfl
  | 12, _ => rfl | 13, _ => rfl | 14, _ => rfl | 15, _ => rfl | 16, _ => rfl | 17, _ => rfl | 18, _ => rfl | 19, _ => rfl | 20, _ => rfl | 21, _ => rfl | 22, _ => rfl | 23, _ => rfl
  | k + 24, h => absurd h (by show ¬ k + 24 < 24; omega)
theorem mass_one (R : Nat → Dy) : (mcells R).all (·.oneCell') = true :=
  all_oneCell_toArray (cs := (mcells R).toList) (by intro v hv; simp only [List.mem_cons, List.not_mem_nil, or_false] at hv; rcases hv with rfl | rfl | rfl | rfl | rfl | rfl | rfl | rfl | rfl | rfl | rfl | rfl <;> rfl)
theorem wq_lim {g L : Nat} {X Y : World} {d r : Dy} (h : Twd L X d r) (hw : Wq g X Y) (hg : g < L) : Twd L Y d r := ⟨hw.lim h.lim hg, h.s, h.n, h.x, h.f⟩
set_option maxHeartbeats 12800000 in
theorem ptwin_any {w : World} {m : Md} {l : List De} {t : Nat → Nat} (h : Prd w w.heap.size m l t) (hnil : ∀ k, k < 4 → (m.D k).A = none → (m.D k).n = 0 ∧ (m.D k).c = 0) (hnT : m.T = none → m.k = 0 ∧ m.d = 0) (hn : ∀ k, k < 4 → (m.D k).n ≤ 42) (hl : m.n ≤ 70) (hk : m.k ≤ 70) :
    Calls Tryz.prog 5 #[.agg (mdc m)] w fun e w' => ∃ m', e = .returned (.agg (mdc m')) ∧ Hid (Tw w.heap.size w' m m' l t) ∧ Hid (Below w.heap.size w w') := by
  obtain ⟨W, hW⟩ : ∃ W, W = (w.alloc (.cells (mdc m) 31)).alloc (.cells (mdc (Mz 0)) 31) := ⟨_, rfl⟩
  have B0 := hid (show Below w.heap.size w W from hW ▸ ((Below.refl _ w).alloc (Nat.le_refl _) _).alloc (by simp) _)
  have P1 := hid (show Pbox W w.heap.size m from hW ▸ pheap0 w _ _)
  have P2 := hid (show Pbox W (w.heap.size + 1) (Mz 0) from hW ▸ pheap1 w _ _)
  have HW := hid hW
  have S0 := hid (show w.heap.size + 2 ≤ W.heap.size from by have := P2.out.lt; omega)
  have H := hid h
  have CM := hid (emtwin_any ((H.out.on B0.out).ms) hnil hn)
  have HnT := hid hnT
  have Hk := hid hk
  have Hl := hid hl
  clear hW h hnil hn hnT hk hl
  go_enter Tryz.func5, Tryz.ntmps5
  go_upto_region 1 with fail
  change Code.wp _ _ _ _ ((w.alloc (.cells (mdc m) 31)).alloc (.cells (mdc (Mz 0)) 31))
  rw [← HW.out]
  clear HW
  go_wp2_with (first | (with_reducible refine wp_gmass (by kernel_rfl) (.tmp 3) rfl w.heap.size m rfl P1.out ?_) | fail)
  refine CM.out.mono ?_
  rintro e w1 ⟨R, rfl, hR, hb⟩
  have S1 := hid (show W.heap.size ≤ w1.heap.size from hb.out.size)
  replace B0 := hid (B0.out.trans (hb.out.mono B0.out.size))
  replace P1 := hid (P1.out.below hb.out P1.out.lt)
  replace P2 := hid (P2.out.below hb.out P2.out.lt)
  clear hb CM
  go_upto_region 2 with (first
    | (refine wp_mid_k rfl 26 (.tmp 6) (.tmp 5) (by with_reducible rfl) w.heap.size 6 31 (mdc m) (mcells R) (mdc ⟨m.kd, m.fr, m.tu, m.ep, m.nu, m.ab, R, m.wa, m.A, m.n, m.c, m.ha, m.mn, m.mx, m.T, m.k, m.d⟩) (by rfl) (by rfl) P1.out (show 6 + 12 ≤ 24 by decide) mass_size (mass_one R) rfl (mass_put m R) ?_; intro X1 Q1 h1)
    | fail)
  replace P1 := hid (show Pbox X1 w.heap.size ⟨m.kd, m.fr, m.tu, m.ep, m.nu, m.ab, R, m.wa, m.A, m.n, m.c, m.ha, m.mn, m.mx, m.T, m.k, m.d⟩ from Q1)
  replace P2 := hid (h1.pbox P2.out (by omega))
  replace B0 := hid (h1.bel B0.out (Nat.le_refl _))
  replace S1 := hid (h1.size ▸ S1.out)
  have HR := hid (fun k (hk : k < 4) => wq_lim (hR.out k hk) h1 (by have := S0.out; omega))
  clear Q1 h1 hR
  -- descriptors
  have HO := hid (od_at (X := X1.alloc (.cells #[] 73)) (B := X1.heap.size) (heap_alloc_new X1 _) (Nat.le_refl _))
  have KA := hid (show Below X1.heap.size X1 (X1.alloc (.cells #[] 73)) from (Below.refl _ X1).alloc (Nat.le_refl _) _)
  have HDs := hid ((H.out.on (B0.out.trans (KA.out.mono B0.out.size))).ls)
  have x19 := (P1.out.below KA.out P1.out.lt).c19
  have SA := hid (show X1.heap.size ≤ (X1.alloc (.cells #[] 73)).heap.size from KA.out.size)
  go_upto_region 3 with (first
    | (at_builtin; refine list_appD rfl (.tmp 7) (.tmp 9) rfl (w := X1.alloc (.cells #[] 73)) (v := .slice (some ⟨X1.heap.size, 0, none⟩) 0 0) (B := X1.heap.size) (l := []) (r := l) rfl rfl HO.out HDs.out (by have := Hl.out; simp; omega) SA.out ?_; intro vn Xn HT; have KT := hid (HT.out.bel HO.out SA.out); obtain ⟨An, cn, en, -⟩ := HT.out.own.form; obtain ⟨nn', HN'⟩ : ∃ k, ([] ++ l : List De).length = k := ⟨_, rfl⟩; rw [HN'] at en; subst en; have HOx := hid HT.out.own; replace HN' := hid HN'; have PX := hid ((P1.out.below KA.out P1.out.lt).below KT.out (by have := S0.out; have := S1.out; omega)))
    | (refine wp_cell_k rfl 27 (.tmp 11) (.tmp 10) (by with_reducible rfl) w.heap.size 19 (.slice An nn' cn) 31 (mdc ⟨m.kd, m.fr, m.tu, m.ep, m.nu, m.ab, R, m.wa, m.A, m.n, m.c, m.ha, m.mn, m.mx, m.T, m.k, m.d⟩) (mdc ⟨m.kd, m.fr, m.tu, m.ep, m.nu, m.ab, R, m.wa, An, nn', cn, m.ha, m.mn, m.mx, m.T, m.k, m.d⟩) (by rfl) (by rfl) rfl (by kernel_rfl) PX.out (show (19 : Nat) < 24 by decide) rfl ?_; intro X2 Q2 h2)
    | fail)
  have s0 := S0.out
  have s1 := S1.out
  have K12 := hid (show Below X1.heap.size X1 Xn from KA.out.trans KT.out)
  have HO2 := hid (show Od X2 W.heap.size (.slice An nn' cn) l from (HOx.out.mono' s1).hi (Hi.wq' h2 (by omega)))
  replace HR := hid (fun k (hk : k < 4) => wq_lim ((HR.out k hk).hi (Hi.bel K12.out)) h2 (by omega))
  replace P2 := hid (h2.pbox (P2.out.below K12.out (by omega)) (by omega))
  replace P1 := hid (show Pbox X2 w.heap.size ⟨m.kd, m.fr, m.tu, m.ep, m.nu, m.ab, R, m.wa, An, nn', cn, m.ha, m.mn, m.mx, m.T, m.k, m.d⟩ from Q2)
  replace B0 := hid (h2.bel (B0.out.trans (K12.out.mono (by omega))) (Nat.le_refl _))
  have S2 := hid (show W.heap.size ≤ X2.heap.size from by have := K12.out.size; have := h2.size; omega)
  clear HO KA HDs x19 SA HT KT HOx PX Q2 h2 K12 s0 s1 S1
  -- tags
  have HT2 := hid ((H.out.on B0.out).tg)
  have Hcells := hid (cells_of_rd HT2.out)
  have KA := hid (show Below X2.heap.size X2 (X2.alloc (.cells #[] 75)) from (Below.refl _ X2).alloc (Nat.le_refl _) _)
  have x23 := (P1.out.below KA.out P1.out.lt).c23
  have hkb := Hk.out
  go_upto_region 4 with (first
    | (at_builtin; refine wpList_append_copy rfl (.tmp 12) (.tmp 14) 22 rfl 75 (.int .u32 0) 4 Tryz.underlying22 info_u32 rfl (by decide) rfl rfl (by simp) HnT.out Hcells.out (by simp; intros; subst_vars; rfl) (by omega) ?_; intro v1 Xt hown1 hbel1; obtain ⟨A1, c1, rfl, hr1⟩ := mk_of_row hown1.out (by omega) HT2.out.lt HT2.out.out; have HM1 := hid hr1; clear hr1; have PX := hid (P1.out.below hbel1.out P1.out.lt))
    | (refine wp_cell_k rfl 22 (.tmp 16) (.tmp 15) (by with_reducible rfl) w.heap.size 23 (.slice A1 m.k c1) 31 (mdc ⟨m.kd, m.fr, m.tu, m.ep, m.nu, m.ab, R, m.wa, An, nn', cn, m.ha, m.mn, m.mx, m.T, m.k, m.d⟩) (mdc ⟨m.kd, m.fr, m.tu, m.ep, m.nu, m.ab, R, m.wa, An, nn', cn, m.ha, m.mn, m.mx, A1, m.k, c1⟩) (by rfl) (by rfl) rfl (by kernel_rfl) PX.out (show (23 : Nat) < 24 by decide) rfl ?_; intro X3 Q3 h3)
    | fail)
  have s0 := S0.out
  have s2 := S2.out
  have HO3 := hid ((HO2.out.hi (Hi.bel hbel1.out)).hi (Hi.wq' h3 (by omega)))
  replace HR := hid (fun k (hk : k < 4) => wq_lim ((HR.out k hk).hi (Hi.bel hbel1.out)) h3 (by omega))
  have HM3 := hid (h3.lim (HM1.out.mono s2) (by omega))
  replace P2 := hid (h3.pbox (P2.out.below hbel1.out (by omega)) (by omega))
  replace P1 := hid (show Pbox X3 w.heap.size ⟨m.kd, m.fr, m.tu, m.ep, m.nu, m.ab, R, m.wa, An, nn', cn, m.ha, m.mn, m.mx, A1, m.k, c1⟩ from Q3)
  replace B0 := hid (h3.bel (B0.out.trans (hbel1.out.mono (by omega))) (Nat.le_refl _))
  clear HM1 PX Q3 h3 hbel1 hown1 HO2 x23 KA
  go_wp2_with (first | (refine wp_gmail (by kernel_rfl) (.tmp 1) (by with_reducible rfl) w.heap.size ⟨m.kd, m.fr, m.tu, m.ep, m.nu, m.ab, R, m.wa, An, nn', cn, m.ha, m.mn, m.mx, A1, m.k, c1⟩ (by rfl) P1.out ?_) | (refine wp_row_k rfl 31 (.tmp 2) (.tmp 17) (by with_reducible rfl) (w.heap.size + 1) 31 (mdc (Mz 0)) (mdc ⟨m.kd, m.fr, m.tu, m.ep, m.nu, m.ab, R, m.wa, An, nn', cn, m.ha, m.mn, m.mx, A1, m.k, c1⟩) (by rfl) (by rfl) P2.out rfl (by kernel_rfl) (mdc_one _) ?_; intro Ze Q4 h4) | fail)
  refine ret_mail1 rfl (by rfl) rfl (show Pbox Ze (w.heap.size + 1) ⟨m.kd, m.fr, m.tu, m.ep, m.nu, m.ab, R, m.wa, An, nn', cn, m.ha, m.mn, m.mx, A1, m.k, c1⟩ from Q4) ⟨_, rfl, hid ?_, hid (h4.bel B0.out (by omega))⟩
  exact ⟨rfl, rfl, rfl, rfl, rfl, rfl, fun k hk => ⟨(h4.lim (HR.out k hk).lim (by omega)).mono (by omega), (HR.out k hk).s, (HR.out k hk).n, (HR.out k hk).x, (HR.out k hk).f⟩, rfl, (HO3.out.hi (Hi.wq' h4 (by omega))).mono' (by omega), HN'.out.symm, rfl, rfl, rfl, (h4.lim HM3.out (by omega)).mono (by omega), rfl⟩
open Go.RowKit Go.Shelf Go.Lib
set_option maxRecDepth 100000
set_option maxHeartbeats 1600000 in
theorem tclone_some {p : Addr} {n c : Nat} {f : Nat → Nat} {w : World} (h : Rd w w.heap.size (some p) n c f) (hn : n ≤ 5000) :
    Calls Tryz.prog 34 #[.slice (some p) n c] w fun e w' => ∃ A' c', e = .returned (.slice A' n c') ∧ Hid (Mk w' 75 w.heap.size A' n c' f) ∧ Hid (Below w.heap.size w w') := by
  have Hcells := hid (cells_of_rd h)
  have H := hid h
  have hm := h.max
  have hnil : ∀ w, (binOp .eql 22 (.slice (some p) n c) (.slice none 0 0)).run Tryz.prog w = .ok (.bool false) w := fun w => Lib.run_eql_slice_nil w 22 75 (some p) n c 0 0 Tryz.underlying22
  clear h
  go_enter Tryz.func34, Tryz.ntmps34
  go_wp2_with (at_builtin; refine wpList_append_copy rfl (.tmp 5) (.tmp 6) 22 rfl 75 (.int .u32 0) 4 Tryz.underlying22 info_u32 rfl (by decide) rfl rfl (by simp) (fun h => by cases h) Hcells.out (by simp; intros; subst_vars; rfl) (by omega) ?_; intro v1 w1 hown1 hbel1)
  go_ret
  obtain ⟨A1, c1, rfl, hr1⟩ := mk_of_row hown1.out hm H.out.lt H.out.out
  exact ⟨_, _, rfl, hr1, hbel1⟩
theorem tclone_any {A : Option Addr} {n c : Nat} {f : Nat → Nat} {w : World} (h : Rd w w.heap.size A n c f) (hnil : A = none → n = 0 ∧ c = 0) (hn : n ≤ 5000) :
    Calls Tryz.prog 34 #[.slice A n c] w fun e w' => ∃ A' c', e = .returned (.slice A' n c') ∧ Hid (Mk w' 75 w.heap.size A' n c' f) ∧ Hid (Below w.heap.size w w') := by
  cases A with
  | none =>
    obtain ⟨rfl, rfl⟩ := hnil rfl
    refine (clone_nil w).mono ?_
    rintro e w' ⟨rfl, rfl⟩
    exact ⟨_, _, rfl, ⟨Nat.le_refl _, by omega, h.lt, h.out, .inl ⟨rfl, rfl, rfl⟩⟩, Below.refl _ _⟩
  | some p => exact tclone_some h hn
set_option maxHeartbeats 1600000 in
theorem dclone_any {w : World} {B n c : Nat} {A : Option Addr} {l : List De} (h : Ds w B A n c l) (hB : B ≤ w.heap.size) (hn : n ≤ 100000) :
    Calls Tryz.prog 33 #[.slice A n c] w fun e w' => ∃ v, e = .returned v ∧ Hid (Od w' w.heap.size v l ∧ Below w.heap.size w w') := by
  have H := hid h
  have heq : ∀ (A : Option Addr) (n c : Nat) (W : World), (binOp .eql 27 (.slice A n c) (.slice none 0 0)).run Tryz.prog W = .ok (.bool A.isNone) W := fun A n c W => by
    simp only [binOp]
    simp [run_equal_slice_nil W _ _ A n c Tryz.underlying27]
  cases A with
  | none =>
    obtain ⟨rfl, rfl⟩ := h.nil rfl
    obtain rfl := List.length_eq_zero_iff.1 h.len
    clear h
    have heq := heq none 0 0
    go_enter Tryz.func33, Tryz.ntmps33
    go_wp2_with (simp only [heq])
    go_ret
    exact ⟨_, rfl, hid ⟨Od.nil _ _, Below.refl _ _⟩⟩
  | some a =>
    have hb1 : Below w.heap.size w (w.alloc (.cells #[] 73)) := (Below.refl _ w).alloc (Nat.le_refl _) _
    have HO := hid (od_at (heap_alloc_new w (.cells #[] 73)) (Nat.le_refl w.heap.size))
    have HD := hid ((h.mono hB).below hb1)
    have HB1 := hid hb1
    clear h hb1
    have heq := heq (some a) n c
    go_enter Tryz.func33, Tryz.ntmps33
    go_wp2_with (first
      | simp only [heq]
      | (at_builtin; refine list_appD rfl _ _ rfl rfl rfl HO.out HD.out (by simpa using hn) (by simp) ?_; intro v' w' HT)
      | go_in)
    go_ret
    refine ⟨_, rfl, hid ⟨HT.out.own, ?_⟩⟩
    refine HB1.out.trans ?_
    refine ⟨HT.out.grown.os, HT.out.grown.tape, HT.out.grown.output, HT.out.grown.size, fun k hk => HT.out.grown.block k (by simp; omega) (fun e => ?_)⟩
    have e2 : k = w.heap.size := Option.some.inj e
    omega
open Go.RowKit Go.Shelf Go.Lib
set_option maxRecDepth 100000
set_option maxHeartbeats 12800000 in
theorem mtwinm_any {w : World} {m : Md} {l : List De} {t : Nat → Nat} (h : Prd w w.heap.size m l t) (hnil : ∀ k, k < 4 → (m.D k).A = none → (m.D k).n = 0 ∧ (m.D k).c = 0) (hnT : m.T = none → m.k = 0 ∧ m.d = 0) (hn : ∀ k, k < 4 → (m.D k).n ≤ 42) (hl : m.n ≤ 70) (hk : m.k ≤ 70) :
    Calls Tryz.prog 10 #[.agg (mdc m)] w fun e w' => ∃ m', e = .returned (.agg (mdc m')) ∧ Hid (Tw w.heap.size w' m m' l t) ∧ Hid (Below w.heap.size w w') := by
  obtain ⟨W, hW⟩ : ∃ W, W = (w.alloc (.cells (mdc m) 31)).alloc (.cells (mdc (Mz 0)) 31) := ⟨_, rfl⟩
  have B0 := hid (show Below w.heap.size w W from hW ▸ ((Below.refl _ w).alloc (Nat.le_refl _) _).alloc (by simp) _)
  have P1 := hid (show Pbox W w.heap.size m from hW ▸ pheap0 w _ _)
  have P2 := hid (show Pbox W (w.heap.size + 1) (Mz 0) from hW ▸ pheap1 w _ _)
  have HW := hid hW
  have S0 := hid (show w.heap.size + 2 ≤ W.heap.size from by have := P2.out.lt; omega)
  have H := hid h
  have CM := hid (mtwin_any ((H.out.on B0.out).ms) hnil hn)
  have HnT := hid hnT
  have Hk := hid hk
  have Hl := hid hl
  clear hW h hnil hn hnT hk hl
  go_enter Tryz.func10, Tryz.ntmps10
  go_upto_region 1 with fail
  change Code.wp _ _ _ _ ((w.alloc (.cells (mdc m) 31)).alloc (.cells (mdc (Mz 0)) 31))
  rw [← HW.out]
  clear HW
  go_wp2_with (first | (with_reducible refine wp_gmass (by kernel_rfl) (.tmp 3) rfl w.heap.size m rfl P1.out ?_) | fail)
  refine CM.out.mono ?_
  rintro e w1 ⟨R, rfl, hR, hb⟩
  have S1 := hid (show W.heap.size ≤ w1.heap.size from hb.out.size)
  replace B0 := hid (B0.out.trans (hb.out.mono B0.out.size))
  replace P1 := hid (P1.out.below hb.out P1.out.lt)
  replace P2 := hid (P2.out.below hb.out P2.out.lt)
  clear hb CM
  go_upto_region 2 with (first
    | (refine wp_mid_k rfl 26 (.tmp 6) (.tmp 5) (by with_reducible rfl) w.heap.size 6 31 (mdc m) (mcells R) (mdc ⟨m.kd, m.fr, m.tu, m.ep, m.nu, m.ab, R, m.wa, m.A, m.n, m.c, m.ha, m.mn, m.mx, m.T, m.k, m.d⟩) (by rfl) (by rfl) P1.out (show 6 + 12 ≤ 24 by decide) mass_size (mass_one R) rfl (mass_put m R) ?_; intro X1 Q1 h1)
    | fail)
  replace P1 := hid (show Pbox X1 w.heap.size ⟨m.kd, m.fr, m.tu, m.ep, m.nu, m.ab, R, m.wa, m.A, m.n, m.c, m.ha, m.mn, m.mx, m.T, m.k, m.d⟩ from Q1)
  replace P2 := hid (h1.pbox P2.out (by omega))
  replace B0 := hid (h1.bel B0.out (Nat.le_refl _))
  replace S1 := hid (h1.size ▸ S1.out)
  have HR := hid (fun k (hk : k < 4) => wq_lim (hR.out k hk) h1 (by have := S0.out; omega))
  clear Q1 h1 hR
  have HDs := hid ((H.out.on B0.out).ls)
  have x19 := P1.out.c19
  have CC := hid (dclone_any HDs.out (Nat.le_refl _) (by have := Hl.out; omega))
  go_wp2_with fail
  refine CC.out.mono ?_
  rintro e Xn ⟨vn, rfl, hcl⟩
  obtain ⟨hOx, hKT⟩ := hcl.out
  have KT := hid hKT
  obtain ⟨An, cn, en, -⟩ := hOx.form
  obtain ⟨nn', HN'⟩ : ∃ k, l.length = k := ⟨_, rfl⟩
  rw [HN'] at en
  subst en
  have HOx := hid hOx
  replace HN' := hid HN'
  have PX := hid (P1.out.below KT.out (by have := S0.out; have := S1.out; omega))
  clear hOx hKT hcl CC x19
  go_upto_region 3 with (first
    | (refine wp_cell_k rfl 27 (.tmp 10) (.tmp 9) (by with_reducible rfl) w.heap.size 19 (.slice An nn' cn) 31 (mdc ⟨m.kd, m.fr, m.tu, m.ep, m.nu, m.ab, R, m.wa, m.A, m.n, m.c, m.ha, m.mn, m.mx, m.T, m.k, m.d⟩) (mdc ⟨m.kd, m.fr, m.tu, m.ep, m.nu, m.ab, R, m.wa, An, nn', cn, m.ha, m.mn, m.mx, m.T, m.k, m.d⟩) (by rfl) (by rfl) rfl (by kernel_rfl) PX.out (show (19 : Nat) < 24 by decide) rfl ?_; intro X2 Q2 h2)
    | fail)
  have s0 := S0.out
  have s1 := S1.out
  have K12 := KT
  have HO2 := hid (show Od X2 W.heap.size (.slice An nn' cn) l from (HOx.out.mono' s1).hi (Hi.wq' h2 (by omega)))
  replace HR := hid (fun k (hk : k < 4) => wq_lim ((HR.out k hk).hi (Hi.bel K12.out)) h2 (by omega))
  replace P2 := hid (h2.pbox (P2.out.below K12.out (by omega)) (by omega))
  replace P1 := hid (show Pbox X2 w.heap.size ⟨m.kd, m.fr, m.tu, m.ep, m.nu, m.ab, R, m.wa, An, nn', cn, m.ha, m.mn, m.mx, m.T, m.k, m.d⟩ from Q2)
  replace B0 := hid (h2.bel (B0.out.trans (K12.out.mono (by omega))) (Nat.le_refl _))
  have S2 := hid (show W.heap.size ≤ X2.heap.size from by have := K12.out.size; have := h2.size; omega)
  clear HDs KT HOx PX Q2 h2 K12 s0 s1 S1
  -- tags
  have HT2 := hid ((H.out.on B0.out).tg)
  have x23 := P1.out.c23
  have CC := hid (tclone_any HT2.out HnT.out (by have := Hk.out; omega))
  go_wp2_with fail
  refine CC.out.mono ?_
  rintro e Xt ⟨A1, c1, rfl, HM1, hbel1⟩
  have PX := hid (P1.out.below hbel1.out P1.out.lt)
  clear CC x23
  go_upto_region 4 with (first
    | (refine wp_cell_k rfl 22 (.tmp 14) (.tmp 13) (by with_reducible rfl) w.heap.size 23 (.slice A1 m.k c1) 31 (mdc ⟨m.kd, m.fr, m.tu, m.ep, m.nu, m.ab, R, m.wa, An, nn', cn, m.ha, m.mn, m.mx, m.T, m.k, m.d⟩) (mdc ⟨m.kd, m.fr, m.tu, m.ep, m.nu, m.ab, R, m.wa, An, nn', cn, m.ha, m.mn, m.mx, A1, m.k, c1⟩) (by rfl) (by rfl) rfl (by kernel_rfl) PX.out (show (23 : Nat) < 24 by decide) rfl ?_; intro X3 Q3 h3)
    | fail)
  have s0 := S0.out
  have s2 := S2.out
  have HO3 := hid ((HO2.out.hi (Hi.bel hbel1.out)).hi (Hi.wq' h3 (by omega)))
  replace HR := hid (fun k (hk : k < 4) => wq_lim ((HR.out k hk).hi (Hi.bel hbel1.out)) h3 (by omega))
  have HM3 := hid (h3.lim (HM1.out.mono s2) (by omega))
  replace P2 := hid (h3.pbox (P2.out.below hbel1.out (by omega)) (by omega))
  replace P1 := hid (show Pbox X3 w.heap.size ⟨m.kd, m.fr, m.tu, m.ep, m.nu, m.ab, R, m.wa, An, nn', cn, m.ha, m.mn, m.mx, A1, m.k, c1⟩ from Q3)
  replace B0 := hid (h3.bel (B0.out.trans (hbel1.out.mono (by omega))) (Nat.le_refl _))
  clear HM1 PX Q3 h3 hbel1 HO2
  go_wp2_with (first | (refine wp_gmail (by kernel_rfl) (.tmp 1) (by with_reducible rfl) w.heap.size ⟨m.kd, m.fr, m.tu, m.ep, m.nu, m.ab, R, m.wa, An, nn', cn, m.ha, m.mn, m.mx, A1, m.k, c1⟩ (by rfl) P1.out ?_) | (refine wp_row_k rfl 31 (.tmp 2) (.tmp 15) (by with_reducible rfl) (w.heap.size + 1) 31 (mdc (Mz 0)) (mdc ⟨m.kd, m.fr, m.tu, m.ep, m.nu, m.ab, R, m.wa, An, nn', cn, m.ha, m.mn, m.mx, A1, m.k, c1⟩) (by rfl) (by rfl) P2.out rfl (by kernel_rfl) (mdc_one _) ?_; intro Ze Q4 h4) | fail)
  refine ret_mail1 rfl (by rfl) rfl (show Pbox Ze (w.heap.size + 1) ⟨m.kd, m.fr, m.tu, m.ep, m.nu, m.ab, R, m.wa, An, nn', cn, m.ha, m.mn, m.mx, A1, m.k, c1⟩ from Q4) ⟨_, rfl, hid ?_, hid (h4.bel B0.out (by omega))⟩
  exact ⟨rfl, rfl, rfl, rfl, rfl, rfl, fun k hk => ⟨(h4.lim (HR.out k hk).lim (by omega)).mono (by omega), (HR.out k hk).s, (HR.out k hk).n, (HR.out k hk).x, (HR.out k hk).f⟩, rfl, (HO3.out.hi (Hi.wq' h4 (by omega))).mono' (by omega), HN'.out.symm, rfl, rfl, rfl, (h4.lim HM3.out (by omega)).mono (by omega), rfl⟩
end Go.Proofs.YtbankbehfjogpaaGreat
