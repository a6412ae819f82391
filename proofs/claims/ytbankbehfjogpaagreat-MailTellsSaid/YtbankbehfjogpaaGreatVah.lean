/- The document's fields: Of, Digits, put, PutNumber. -/
/- The document's fields, taken: May, Done, Number. -/
/- The document's fields, taken: Dyad. -/
/- The document's reader of a mail: number. -/
/- The document's Number and Dyad: what is left lies where it lay. -/
import Derived.Test.YtbankbehfjogpaaGreatVag
import Derived.StillTailTactics
import Derived.Test.YtbankbehfjogpaaGreatVaf
import Derived.Test.YtbankbehfjogpaaGreatVac
import Derived.Deep.RegionHeld3
import Derived.Deep.AppendLies
import Derived.Test.YtbankbehfjogpaaGreatVae
import Derived.Laws.ResultCell
import Derived.Laws.Rows
namespace Go.Proofs.YtbankbehfjogpaaGreat
set_option maxRecDepth 100000
open Go.RowKit
set_option maxHeartbeats 1600000 in
theorem rOf_any {w : World} {B n c : Nat} {A : Option Addr} {xs : List Nat} (h : By w B A n c xs) (hn : n ≤ 8) :
    Calls Tryz.prog 115 #[.slice A n c] w fun e w' => e = .returned (.int .u64 (bn xs : Nat)) ∧ w = w' := by
  have H := hid h
  have hcap := h.cap
  clear h
  go_enter Tryz.func115, Tryz.ntmps115
  go_wp2
  go_loop [3, 4] (fun a i => ∃ k V : Nat, k ≤ n ∧ i = .int .i64 k ∧ a = .int .u64 (V : Int) ∧ Hid (V = bn (xs.take k))) (fun _ i => n - (intOf i).toNat)
  case atStart => exact ⟨0, 0, by omega, rfl, rfl, hid rfl⟩
  case round =>
    obtain ⟨k, V, hk, rfl, rfl, hV⟩ := hrel
    by_cases hcon : k < n
    · obtain ⟨b, off, rfl, _, hc⟩ := H.out.at_ (by omega)
      obtain ⟨x, hx⟩ : ∃ x, xs[k]? = some x := ⟨xs[k]'(by rw [H.out.len]; exact hcon), List.getElem?_eq_getElem _⟩
      have hcell := hc k x hx
      have hx256 := H.out.lt x (List.mem_of_getElem? hx)
      have hVl : V < 72057594037927936 := by
        rw [hV.out]
        have e := bn_lt (xs := xs.take k) (fun y hy => H.out.lt y (List.mem_of_mem_take hy))
        have h1 : (256 : Nat) ^ (xs.take k).length ≤ 256 ^ 7 := Nat.pow_le_pow_right (by omega) (by rw [List.length_take]; omega)
        have h2 : (256 : Nat) ^ 7 = 72057594037927936 := by decide
        omega
      have hnext : Hid (256 * V + x = bn (xs.take (k + 1))) := hid (by rw [bn_take hx, hV.out])
      obtain ⟨U, hU⟩ : ∃ U, U = 256 * V + x := ⟨_, rfl⟩
      have hUe : 256 * (V : Int) + (x : Int) = (U : Int) := by omega
      have hUw : IntKind.u64.wrap (256 * (V : Int) + (x : Int)) = (U : Int) := by rw [IntKind.wrap_u64]; omega
      rw [← hU] at hnext
      clear hc hx hU
      go_wp2
      go_round
      case rel => exact ⟨k + 1, U, by omega, by go_num, by first | rfl | (congr 1; omega), hnext⟩
      case measure => simp [intOf]; omega
    · obtain rfl : k = n := by omega
      go_wp2
      go_ret
      exact ⟨by rw [hV.out, List.take_of_length_le (by rw [H.out.len]; exact Nat.le_refl _)]; rfl, rfl⟩
theorem be_succ (V k : Nat) : be V (k + 1) = V / 256 ^ k % 256 :: be V k := by
  unfold be
  rw [bys_succ, List.reverse_append]
  rfl
set_option maxHeartbeats 1600000 in
theorem rDigits_any {w : World} {V z : Nat} (hz : z ≤ 8) (_hV : V ≤ 18446744073709551615) :
    Calls Tryz.prog 97 #[.int .u64 (V : Int), .int .i64 (z : Int)] w fun e w' => ∃ A c, e = .returned (.slice A z c) ∧ Hid (Ow w' w.heap.size (.slice A z c) (be V z)) ∧ Hid (By w' w'.heap.size A z c (be V z)) ∧ Hid (Below w.heap.size w w') := by
  go_enter Tryz.func97, Tryz.ntmps97
  go_wp2
  go_loopw [0, 5, 6] (fun t a i wr => ∃ k T : Nat, k ≤ z ∧ i = .int .i64 k ∧ t = .int .u64 (T : Int) ∧ Hid (T = V / 256 ^ k) ∧ Hid (Ow wr w.heap.size a (be V k)) ∧ Hid (Below w.heap.size w wr)) (fun _ _ i _ => z - (intOf i).toNat)
  case atStart => exact ⟨0, V, by omega, rfl, rfl, hid (by rw [Nat.pow_zero, Nat.div_one]), hid (Ow.nil _ _), hid (Below.refl _ _)⟩
  case round =>
    obtain ⟨k, T, hk, rfl, rfl, hT, hO, hb⟩ := hrel
    by_cases hcon : k < z
    · obtain ⟨A, c, hv, hY⟩ := hO.out.shape
      rw [be_length] at hY hv
      subst hv
      have hm : (T : Int) % 256 = ((T % 256 : Nat) : Int) := by omega
      have hd : (T : Int) / 256 = ((T / 256 : Nat) : Int) := by omega
      have hnext : Hid (be V (k + 1) = [T % 256] ++ be V k) := hid (by rw [be_succ, ← hT.out]; rfl)
      have hnd : Hid (T / 256 = V / 256 ^ (k + 1)) := hid (by rw [hT.out, Nat.div_div_eq_div_mul, Nat.pow_succ])
      have hy : T % 256 < 256 := Nat.mod_lt _ (by omega)
      obtain ⟨y, hyy⟩ : ∃ y, y = T % 256 := ⟨_, rfl⟩
      obtain ⟨T2, hT2⟩ : ∃ T2, T2 = T / 256 := ⟨_, rfl⟩
      rw [← hyy] at hm hnext hy
      rw [← hT2] at hd hnd
      have hTV : T ≤ V := by rw [hT.out]; exact Nat.div_le_self _ _
      have hwr : IntKind.u64.wrap (T2 : Int) = (T2 : Int) := by rw [IntKind.wrap_u64]; omega
      have hwt : IntKind.u64.wrap ((T : Int) / 256) = (T2 : Int) := by rw [hd, IntKind.wrap_u64]; omega
      have Hal := hid ((Below.refl wr.heap.size wr).alloc (Nat.le_refl _) (.cells (vals [y]).toArray 5))
      have HN : Hid (Ow (wr.alloc (.cells (vals [y]).toArray 5)) wr.heap.size (.slice (some ⟨wr.heap.size, 0, none⟩) 1 1) [y]) :=
        hid ⟨⟨rfl, .inr ⟨wr.heap.size, 1, _, rfl, Nat.le_refl _, heap_alloc_new wr _, Nat.le_refl _, by unfold maxLen; omega, rfl, rfl⟩⟩, by simpa using hy, by simp⟩
      have HY := hid (hY.below Hal.out)
      have hsz := hb.out.size
      clear hY hyy hT2 hO
      go_wp2_with (at_builtin; refine app_bytes rfl (.tmp 15) (.tmp 16) rfl rfl rfl HN.out (by simp) HY.out (by simp; omega) ?_; intro v' w' hO' hb')
      go_roundw
      case rel => exact ⟨k + 1, T2, by omega, by go_num, by first | rfl | (congr 1; omega), hnd, hid (by rw [hnext.out]; exact hO'.out.mono hsz), hid (hb.out.trans ((Hal.out.trans hb'.out).mono hsz))⟩
      case measure => simp [intOf]; omega
    · obtain rfl : k = z := by omega
      obtain ⟨A, c, hv, hY⟩ := hO.out.shape
      rw [be_length] at hY hv
      subst hv
      have HY := hid hY
      clear hY
      go_wp2
      go_ret
      exact ⟨A, c, rfl, hO, HY, hb⟩
set_option maxRecDepth 100000
open Go.RowKit
set_option maxHeartbeats 1600000 in
theorem rfMay_any (A : Option Addr) (n c : Nat) (p : Int) (w : World) (_hm : n ≤ 140737488355328) :
    Calls Tryz.prog 114 #[.agg #[.slice A n c, .int .i64 p]] w fun e w' => e = .returned (.bool (decide (0 ≤ p ∧ p ≤ n))) ∧ Hid (Below w.heap.size w w') := by
  have B0 := hid ((Below.refl w.heap.size w).alloc (Nat.le_refl _) (.cells #[.slice A n c, .int .i64 p] 63))
  have hcase : (¬ 0 ≤ p) ∨ (0 ≤ p ∧ ¬ p ≤ (n : Int)) ∨ (0 ≤ p ∧ p ≤ (n : Int)) := by omega
  rcases hcase with h1 | ⟨h1, h2⟩ | ⟨h1, h2⟩
  all_goals
    go_enter Tryz.func114, Tryz.ntmps114
    go_wp2
    go_ret
    refine ⟨?_, B0⟩
    congr 2
    simp
    try omega
set_option maxRecDepth 100000
open Go.RowKit
theorem By.cellAt {w : World} {B n c b off : Nat} {xs : List Nat} (h : By w B (some ⟨b, off, none⟩) n c xs) {j : Nat} (hj : j < n) : w.cell? ⟨b, off + j, none⟩ = some (.int .u8 (xs.getD j 0 : Int)) := by
  obtain ⟨b', off', e, _, hc⟩ := h.at_ (by omega)
  injection e with e
  injection e with e1 e2
  subst e1
  subst e2
  refine hc j _ ?_
  rw [List.getD_eq_getElem?_getD, List.getElem?_eq_getElem (by rw [h.len]; exact hj)]
  rfl
theorem step_app_limb {ops : Array Oper} {o : Oper} {a : Act} {K : Act → World → Prop} {Q : Exit → Act → World → Prop} {E : Prop} (hgd : o.guard = none) (s x : Operand)
    (ho : o.op = .call { callee := .builtin .append, args := #[s, x], argTypes := #[22, 22] }) {Y : World} {B k b U : Nat} {fr : Nat × Nat} {v : Value} {f : Nat → Nat} (hs : a.eval s = v) (hx : a.eval x = .slice (some ⟨b, 0, none⟩) 1 1)
    (hown : Lgr Y B f k v) (hB : B ≤ Y.heap.size) (hblk : Y.heap[b]? = some (.cells #[.int .u32 (U : Int)] 75 fr)) (hU : U = f k) (hk : k ≤ 1000)
    (h : ∀ v' w', Hid (Lgr w' B f (k + 1) v') → Hid (Below B Y w') → K (a.put o.dst v') w') : if Region.wanted o (yielded ops a.tmps) = true then Oper.wp Tryz.prog o a Y K Q else E := by
  obtain ⟨i, hi, hz, hsz, hby⟩ := info_one info_u32
  refine step_append_lies Y hgd s x 22 ho B 75 i (.int .u32 0) 1 4 Tryz.underlying22 hi hz hsz hby rfl (by decide) v k _ hs hown ⟨b, 0, none⟩ 1 1 [.int .u32 (U : Int)] hx rfl (World.news_of_block hblk) (fun u hu => by simp at hu; subst hu; rfl) (by omega) (by unfold maxLen; omega) (by omega) hB _ rfl ?_
  intro g cap w' h1 h2 h3 h4
  refine h _ w' (hid ?_) (hid ((Below.refl _ _).grown h2 hB ?_))
  · unfold Lgr
    rw [List.range_succ, List.map_append]
    rw [hU] at h1
    exact h1
  · intro q hq
    rcases hown with ⟨_, ⟨rfl, _⟩ | ⟨g', cap', cur, rfl, hg, _⟩⟩
    · cases hq
    · injection hq with hq
      subst hq
      exact hg
theorem Lgr.drew' {w : World} {B n : Nat} {f : Nat → Nat} {v : Value} (h : Lgr w B f n v) : Lgr w.drew B f n v := h
theorem Lgr.shape' {w : World} {B n : Nat} {f : Nat → Nat} {v : Value} (h : Lgr w B f n v) : ∃ A c, v = .slice A n c := by
  obtain ⟨_, hor⟩ := h
  rcases hor with ⟨rfl, rfl⟩ | ⟨k, cap, cur, rfl, _⟩
  · exact ⟨_, _, rfl⟩
  · exact ⟨_, _, rfl⟩
theorem Lgr.alloc' {w : World} {B n : Nat} {f : Nat → Nat} {v : Value} (h : Lgr w B f n v) (o : Obj) : Lgr (w.alloc o) B f n v := by
  obtain ⟨hl, hor⟩ := h
  refine ⟨hl, ?_⟩
  rcases hor with h0 | ⟨k, cap, cur, rfl, hk, hh, hr⟩
  · exact .inl h0
  · exact .inr ⟨k, cap, cur, rfl, hk, (Below.heap_alloc _ _ k (lt_of_heap hh)).trans hh, hr⟩
theorem hb_y1 (w : World) (o : Obj) : (w.alloc o).drew.heap[w.heap.size]? = some o := heap_alloc_new w o
theorem hb_y2 (w : World) (o : Obj) : (w.drew.alloc o).heap[w.heap.size]? = some o := heap_alloc_new w o
theorem y_b1 {w1 w w' : World} {o : Obj} {B C : Nat} (hb : Below B w1 w) (hB : B ≤ w.heap.size) (h : Hid (Below C (w.alloc o).drew w')) (hC : B ≤ C) : Hid (Below B w1 w') := hid ((hb.alloc hB o).drew.trans (h.out.mono hC))
theorem y_b2 {w1 w w' : World} {o : Obj} {B C : Nat} (hb : Below B w1 w) (hB : B ≤ w.heap.size) (h : Hid (Below C (w.drew.alloc o) w')) (hC : B ≤ C) : Hid (Below B w1 w') := hid ((hb.drew.alloc hB o).trans (h.out.mono hC))
theorem y_s1 {w w' : World} {o : Obj} {C D : Nat} (hw : D ≤ w.heap.size) (h : Hid (Below C (w.alloc o).drew w')) : Hid (D ≤ w'.heap.size) := hid (Nat.le_trans hw (Nat.le_trans (by show _ ≤ (w.alloc o).heap.size; simp) h.out.size))
theorem y_s2 {w w' : World} {o : Obj} {C D : Nat} (hw : D ≤ w.heap.size) (h : Hid (Below C (w.drew.alloc o) w')) : Hid (D ≤ w'.heap.size) := hid (Nat.le_trans hw (Nat.le_trans (by show w.heap.size ≤ (w.drew.alloc o).heap.size; simp) h.out.size))
theorem y_d1 {w w' : World} {o : Obj} {C g : Nat} {s : Bool} {v : Value} {x : Int} (hd : Dbox w g s v x) (h : Hid (Below C (w.alloc o).drew w')) (hg : g < C) : Hid (Dbox w' g s v x) := hid (Dbox.below (Dbox.drew (Dbox.alloc hd o)) h.out hg)
theorem y_d2 {w w' : World} {o : Obj} {C g : Nat} {s : Bool} {v : Value} {x : Int} (hd : Dbox w g s v x) (h : Hid (Below C (w.drew.alloc o) w')) (hg : g < C) : Hid (Dbox w' g s v x) := hid (Dbox.below (Dbox.alloc (Dbox.drew hd) o) h.out hg)
open Go.RowKit Go.Shelf Go.Lib
set_option maxRecDepth 100000
def rn (xs : List Nat) (st : Option Nat) (z : Nat) : Option Nat × Nat :=
  match st with
  | some q => if q + z ≤ xs.length then (some (q + z), bn ((xs.drop q).take z)) else (none, 0)
  | none => (none, 0)
def Dbr (w : World) (g : Nat) (A : Option Addr) (n c : Nat) (p : Int) (ok : Bool) : Prop := w.heap[g]? = some (.cells #[.slice A n c, .int .i64 p, .bool ok] 106 (0, 0))
section
variable {w w' : World} {g n c : Nat} {A : Option Addr} {p : Int} {ok : Bool}
theorem Dbr.lt (h : Dbr w g A n c p ok) : g < w.heap.size := lt_of_heap h
theorem Dbr.c0 (h : Dbr w g A n c p ok) : w.cell? ⟨g, 0, none⟩ = some (.slice A n c) := by rw [cell_of_row w g 0 _ _ (0, 0) h]; rfl
theorem Dbr.c1 (h : Dbr w g A n c p ok) : w.cell? ⟨g, 1, none⟩ = some (.int .i64 p) := by rw [cell_of_row w g 1 _ _ (0, 0) h]; rfl
theorem Dbr.c2 (h : Dbr w g A n c p ok) : w.cell? ⟨g, 2, none⟩ = some (.bool ok) := by rw [cell_of_row w g 2 _ _ (0, 0) h]; rfl
theorem Dbr.frozen (h : Dbr w g A n c p ok) (j : Nat) : w.frozen? ⟨g, j, none⟩ = false := frozen_of_row w g j _ _ h
theorem Dbr.below {B : Nat} (h : Dbr w g A n c p ok) (hb : Below B w w') (hg : g < B) : Dbr w' g A n c p ok := (hb.block g hg).trans h
theorem Dbr.alloc (h : Dbr w g A n c p ok) (x : Obj) : Dbr (w.alloc x) g A n c p ok := (Below.heap_alloc w x g h.lt).trans h
theorem Dbr.store {A' : Option Addr} {n' c' : Nat} {p' : Int} {ok' : Bool} (h : Dbr w g A n c p ok) : Dbr (((w.setCell ⟨g, 0, none⟩ (.slice A' n' c')).setCell ⟨g, 1, none⟩ (.int .i64 p')).setCell ⟨g, 2, none⟩ (.bool ok')) g A' n' c' p' ok' := by
  have h0 := heap_setCell_same w g 0 _ _ (.slice A' n' c') h
  have h1 := heap_setCell_same _ g 1 _ _ (.int .i64 p') h0
  exact heap_setCell_same _ g 2 _ _ (.bool ok') h1
end
theorem by_grown {w w' : World} {A : Option Addr} {B n c : Nat} {xs : List Nat} {row : Option Nat} (h : By w B A n c xs) (hB : B ≤ w.heap.size) (hg : w.grownBy w' row) (hne : 0 < n → ∀ b, A = some b → row ≠ some b.block) : By w' w'.heap.size A n c xs :=
  ⟨h.len, h.cap, h.max, h.lt, h.nil, fun hn => by
    obtain ⟨b, off, rfl, hb, hc⟩ := h.at_ hn
    have hbl := hg.block b (by omega) (fun e => hne hn _ rfl e.symm)
    exact ⟨b, off, rfl, by have := hg.size; omega, fun j x hj => (World.cell?_of_block (a := ⟨b, off + j, none⟩) hbl).trans (hc j x hj)⟩⟩
theorem by_apart {w : World} {A D : Option Addr} {B n c g n' c' : Nat} {xs : List Nat} {p : Int} {ok : Bool} (h : By w B A n c xs) (hd : Dbr w g D n' c' p ok) : 0 < n → ∀ b, A = some b → some g ≠ some b.block := by
  intro hn b hb e
  obtain ⟨b', off, e2, _, hc⟩ := h.at_ hn
  rw [e2] at hb
  injection hb with hb
  subst hb
  injection e with e
  dsimp only at e
  subst e
  have hx : xs[0]? = some (xs[0]'(by rw [h.len]; exact hn)) := List.getElem?_eq_getElem _
  have h1 := hc 0 _ hx
  rw [cell_of_row w g (off + 0) _ _ (0, 0) hd] at h1
  have : off + 0 = 0 ∨ off + 0 = 1 ∨ off + 0 = 2 ∨ 3 ≤ off + 0 := by omega
  rcases this with e | e | e | e
  · rw [e] at h1; simp at h1
  · rw [e] at h1; simp at h1
  · rw [e] at h1; simp at h1
  · rw [show (#[Value.slice D n' c', Value.int .i64 p, Value.bool ok])[off + 0]? = none from Array.getElem?_eq_none (by simpa using e)] at h1
    cases h1
theorem reader_size : (Tryz.prog.info? 106).map (·.size) = some 3 := by kernel_rfl
theorem ret_reader {fn : Func} {R : Ending → World → Prop} {a : Act} {w : World} {q u : Tmp} {g n c : Nat} {A : Option Addr} {p : Int} {ok : Bool} {er : Value} (h : fn.results = #[.cell q 106, .tmp u]) (hp : a.tmps.getD q undef = .pointer (some ⟨g, 0, none⟩)) (hu : a.tmps.getD u undef = er)
    (hd : a.defers = []) (hg : Dbr w g A n c p ok) (hR : R (.returned (.tuple #[.agg #[.slice A n c, .int .i64 p, .bool ok], er])) w) : bodyPost Tryz.prog fn R .ret a w := by
  refine bodyPost_ret ?_ hd hR
  rw [← hu, results_cell_tmp h, hp]
  simp [asAddr, Result.andThen, run_loadVar_row w g 106 106 _ (0, 0) _ hg Tryz.underlying106 rfl reader_size]
end Go.Proofs.YtbankbehfjogpaaGreat
namespace Go.Proofs.YtbankbehfjogpaaGreat
set_option maxRecDepth 100000
open Go.RowKit
def NResT (w : World) (A : Option Addr) (n c : Nat) (xs : List Nat) (p z : Int) (e : Ending) (w' : World) : Prop := ∃ A' n' c' V er, ∃ p' : Int, e = .returned (.tuple #[.agg #[.slice A' n' c', .int .i64 p'], .int .u64 ((V : Nat) : Int), .int .i64 er]) ∧
  Hid (er = nE n p z) ∧ Hid ((er = 0 → A' = A ∧ n' = n ∧ c' = c ∧ p' = p + z ∧ V = bn ((xs.drop p.toNat).take z.toNat)) ∧ (er ≠ 0 → A' = none ∧ n' = 0 ∧ c' = 0 ∧ p' = 0 ∧ V = 0)) ∧ Hid (Below w.heap.size w w')
theorem NResT.bad {w w' : World} {A : Option Addr} {n c : Nat} {xs : List Nat} {p z er : Int} (he : er = nE n p z) (h0 : er ≠ 0) (hb : Below w.heap.size w w') : NResT w A n c xs p z (.returned (.tuple #[.agg #[.slice none 0 0, .int .i64 0], .int .u64 0, .int .i64 er])) w' :=
  ⟨none, 0, 0, 0, er, 0, rfl, he, hid ⟨fun h => absurd h h0, fun _ => ⟨rfl, rfl, rfl, rfl, rfl⟩⟩, hb⟩
def DTResT (w : World) (A : Option Addr) (n c : Nat) (xs : List Nat) (p : Int) (e : Ending) (w' : World) : Prop := ∃ A' n' c', ∃ p' : Int, ∃ s D k d, ∃ x er : Int, ∃ f : Nat → Nat, e = .returned (.tuple #[.agg #[.slice A' n' c', .int .i64 p'], .agg #[.bool s, .slice D k d, .int .i64 x], .int .i64 er]) ∧
  Hid (er = dEr n xs p) ∧ Hid (er = 0 → A' = A ∧ n' = n ∧ c' = c ∧ p' = p + (4 + 4 * (cntOf (xs.drop p.toNat) : Int))) ∧ Hid (Mk w' 75 w.heap.size D k d f) ∧
  Hid (er = 0 → s = decide (sgOf (xs.drop p.toNat) = 1) ∧ k = cntOf (xs.drop p.toNat) ∧ f = limOf (xs.drop p.toNat) ∧ x = (expOf (xs.drop p.toNat) : Int)) ∧ Hid (er ≠ 0 → A' = none ∧ n' = 0 ∧ c' = 0 ∧ p' = 0 ∧ s = false ∧ D = none ∧ k = 0 ∧ d = 0 ∧ f = (fun _ => 0) ∧ x = 0) ∧ Hid (Below w.heap.size w w')
theorem DTResT.bad {w w' : World} {A : Option Addr} {n c : Nat} {xs : List Nat} {p er : Int} (he : er = dEr n xs p) (h0 : er ≠ 0) (hb : Below w.heap.size w w') : DTResT w A n c xs p (.returned (.tuple #[.agg #[.slice none 0 0, .int .i64 0], .agg #[.bool false, .slice none 0 0, .int .i64 0], .int .i64 er])) w' :=
  ⟨none, 0, 0, 0, false, none, 0, 0, 0, er, fun _ => 0, rfl, he, hid fun h => absurd h h0, Mk.nil _ _ _, hid fun h => absurd h h0, hid fun _ => ⟨rfl, rfl, rfl, rfl, rfl, rfl, rfl, rfl, rfl, rfl⟩, hb⟩
set_option maxRecDepth 100000 in
set_option maxHeartbeats 6400000 in
theorem rfNumber_at {w : World} {n c : Nat} {A : Option Addr} {xs : List Nat} (h : By w w.heap.size A n c xs) {p : Int} (hpp : -9223372036854775808 ≤ p ∧ p ≤ 9223372036854775807) {z : Int} (hzz : -9223372036854775808 ≤ z ∧ z ≤ 9223372036854775807) :
    Calls Tryz.prog 103 #[.agg #[.slice A n c, .int .i64 p], .int .i64 z] w (NResT w A n c xs p z) := by
  obtain ⟨W, hW⟩ : ∃ W, W = (w.alloc (.cells #[.slice A n c, .int .i64 p] 63)).alloc (.cells #[.slice none 0 0, .int .i64 0] 63) := ⟨_, rfl⟩
  have B0 := hid (show Below w.heap.size w W from hW ▸ ((Below.refl w.heap.size w).alloc (Nat.le_refl _) _).alloc (by simp) _)
  have R0 : Hid (Rbox W 63 w.heap.size A n c p) := hid (hW ▸ (Below.heap_alloc _ _ _ (by simp)).trans (heap_alloc_new w _))
  have Z0 : Hid (Rbox W 63 (w.heap.size + 1) none 0 0 0) := hid (hW ▸ heap_alloc2_new w _ _)
  have HW := hid hW
  have HX := hid h
  have hmax := h.max
  have hcap := h.cap
  clear hW h
  have C := rfMay_any A n c p W hmax
  have b0 := R0.out.c0
  have b1 := R0.out.c1
  by_cases h1 : 0 ≤ p ∧ p ≤ (n : Int)
  · rw [bool_of_dec h1] at C
    have HC := hid C
    obtain ⟨q, rfl⟩ : ∃ q : Nat, p = q := ⟨p.toNat, by omega⟩
    clear C
    by_cases h2 : 1 ≤ z ∧ z ≤ 8
    · obtain ⟨k, rfl⟩ : ∃ k : Nat, z = k := ⟨z.toNat, by omega⟩
      go_enter Tryz.func103, Tryz.ntmps103
      go_upto_region 1 with fail
      rw [← HW.out]
      go_wp2_with fail
      refine HC.out.mono ?_
      rintro e w1 ⟨rfl, hb1⟩
      have R1 := hid (R0.out.below hb1.out R0.out.lt)
      have Z1 := hid (Z0.out.below hb1.out Z0.out.lt)
      have B1 := hid (B0.out.trans (hb1.out.mono B0.out.size))
      have e0 := R1.out.c0
      have e1 := R1.out.c1
      have f0 := Z1.out.frozen 0
      have f1 := Z1.out.frozen 1
      have c0 := Z1.out.c0
      have c1 := Z1.out.c1
      clear b0 b1
      by_cases hs : n < q + k
      · have hsub : IntKind.i64.wrap ((n : Int) - (q : Int)) = (n : Int) - (q : Int) := IntWalk.i64_in _ (by omega)
        have hlt : (n : Int) - (q : Int) < (k : Int) := by omega
        have HE : Hid ((40 : Int) = nE n q k) := hid (by unfold nE; rw [if_neg (by omega), if_neg (by omega), if_pos (by omega)])
        go_wp2
        refine ret_rest rfl rfl rfl rfl rfl ((Z1.out.set0 (D := none) (m := 0) (d := 0)).set1 0) ?_
        exact NResT.bad HE.out (by omega) ((B1.out.setCell (p := ⟨w.heap.size + 1, 0, none⟩) (by simp) _).setCell (p := ⟨w.heap.size + 1, 1, none⟩) (by simp) _)
      · have HE : Hid ((0 : Int) = nE n q k) := hid (by unfold nE; rw [if_neg (by omega), if_neg (by omega), if_neg (by omega)])
        obtain ⟨V, hV⟩ : ∃ V, V = bn ((xs.drop q).take k) := ⟨_, rfl⟩
        have HV := hid hV
        obtain ⟨b, off, rfl, hbB, -⟩ := HX.out.at_ (by omega)
        have hsub : IntKind.i64.wrap ((n : Int) - (q : Int)) = (n : Int) - (q : Int) := IntWalk.i64_in _ (by omega)
        have hlt : ¬ (n : Int) - (q : Int) < (k : Int) := by omega
        obtain ⟨T, hT⟩ : ∃ T : Nat, T = q + k := ⟨_, rfl⟩
        have hadd : IntKind.i64.wrap ((q : Int) + (k : Int)) = (T : Int) := by rw [IntWalk.i64_in _ (by omega)]; omega
        have hadd2 : (q : Int) + (k : Int) = (T : Int) := by omega
        have hTk : T - q = k := by omega
        have hqT : q ≤ T := by omega
        have hTc : T ≤ c := by have := HX.out.cap; omega
        have hTc2 : (T : Int) ≤ (c : Int) := by omega
        have hcq : c ≠ q := by omega
        have hT0 : (0 : Int) ≤ (T : Int) := by omega
        have HT := hid hT
        have hTw : IntKind.i64.wrap (T : Int) = (T : Int) := IntWalk.i64_in _ (by omega)
        clear hV hT
        have HS := hid ((HX.out.below B1.out.drew).part q (q + k) k rfl (by omega))
        rw [List.drop_take, show q + k - q = k by omega] at HS
        go_upto_region 7 with fail
        refine wp_region_still_tail 17 (by kernel_rfl) (by kernel_rfl) ?_
        simp only [List.take_succ_cons, List.take_zero, List.drop_succ_cons, List.drop_zero]
        repeat still_step
        still_call ((rOf_any HS.out (by omega)).mono (fun e w' h => ⟨h.1, h.2.symm⟩))
        repeat still_step
        try refine wpStill_nil ?_
        change wpList _ _ _ _ _ w1.drew
        have f0 : w1.drew.frozen? ⟨w.heap.size + 1, 0, none⟩ = false := f0
        have f1 : w1.drew.frozen? ⟨w.heap.size + 1, 1, none⟩ = false := f1
        have c0 : w1.drew.cell? ⟨w.heap.size + 1, 0, none⟩ = some (.slice none 0 0) := c0
        have c1 : w1.drew.cell? ⟨w.heap.size + 1, 1, none⟩ = some (.int .i64 0) := c1
        have Z2 := hid Z1.out.drew
        have B2 := hid B1.out.drew
        rw [← HV.out]
        generalize w1.drew = w2 at *
        go_wp2
        refine ret_rest rfl rfl rfl rfl rfl ((Z2.out.set0 (D := some ⟨b, off, none⟩) (m := n) (d := c)).set1 (T : Int)) ?_
        have B4 := (B2.out.setCell (p := ⟨w.heap.size + 1, 0, none⟩) (by simp) (.slice (some ⟨b, off, none⟩) n c)).setCell (p := ⟨w.heap.size + 1, 1, none⟩) (by simp) (.int .i64 (T : Int))
        exact ⟨_, n, c, V, 0, (T : Int), rfl, HE, hid ⟨fun _ => ⟨rfl, rfl, rfl, by have := HT.out; omega, by rw [Int.toNat_natCast, Int.toNat_natCast]; exact HV.out⟩, fun h => absurd rfl h⟩, B4⟩
    · have HE : Hid ((2 : Int) = nE n q z) := hid (by unfold nE; rw [if_neg (by omega), if_pos h2])
      have hcase : z < 1 ∨ (¬ z < 1 ∧ 8 < z) := by omega
      rcases hcase with h3 | ⟨h3, h4⟩
      all_goals
        go_enter Tryz.func103, Tryz.ntmps103
        go_upto_region 1 with fail
        rw [← HW.out]
        go_wp2_with fail
        refine HC.out.mono ?_
        rintro e w1 ⟨rfl, hb1⟩
        have Z1 := hid (Z0.out.below hb1.out Z0.out.lt)
        have B1 := hid (B0.out.trans (hb1.out.mono B0.out.size))
        have f0 := Z1.out.frozen 0
        have f1 := Z1.out.frozen 1
        have c0 := Z1.out.c0
        have c1 := Z1.out.c1
        clear b0 b1
        go_wp2
        refine ret_rest rfl rfl rfl rfl rfl ((Z1.out.set0 (D := none) (m := 0) (d := 0)).set1 0) ?_
        exact NResT.bad HE.out (by omega) ((B1.out.setCell (p := ⟨w.heap.size + 1, 0, none⟩) (by simp) _).setCell (p := ⟨w.heap.size + 1, 1, none⟩) (by simp) _)
  · rw [bool_of_not h1] at C
    have HC := hid C
    have HE : Hid ((8 : Int) = nE n p z) := hid (by unfold nE; rw [if_pos h1])
    clear C
    go_enter Tryz.func103, Tryz.ntmps103
    go_upto_region 1 with fail
    rw [← HW.out]
    go_wp2_with fail
    refine HC.out.mono ?_
    rintro e w1 ⟨rfl, hb1⟩
    have Z1 := hid (Z0.out.below hb1.out Z0.out.lt)
    have B1 := hid (B0.out.trans (hb1.out.mono B0.out.size))
    have f0 := Z1.out.frozen 0
    have f1 := Z1.out.frozen 1
    have c0 := Z1.out.c0
    have c1 := Z1.out.c1
    clear b0 b1
    go_wp2
    refine ret_rest rfl rfl rfl rfl rfl ((Z1.out.set0 (D := none) (m := 0) (d := 0)).set1 0) ?_
    exact NResT.bad HE.out (by omega) ((B1.out.setCell (p := ⟨w.heap.size + 1, 0, none⟩) (by simp) _).setCell (p := ⟨w.heap.size + 1, 1, none⟩) (by simp) _)
set_option maxRecDepth 100000 in
set_option maxHeartbeats 12800000 in
theorem rfDyad_at {w : World} {n c : Nat} {A : Option Addr} {xs : List Nat} (h : By w w.heap.size A n c xs) {p : Int} (hpp : -9223372036854775808 ≤ p ∧ p ≤ 9223372036854775807) (hn : n ≤ 5000) :
    Calls Tryz.prog 104 #[.agg #[.slice A n c, .int .i64 p]] w (DTResT w A n c xs p) := by
  obtain ⟨W, hW⟩ : ∃ W, W = ((w.alloc (.cells #[.slice A n c, .int .i64 p] 63)).alloc (.cells #[.slice none 0 0, .int .i64 0] 63)).alloc (.cells #[.bool false, .slice none 0 0, .int .i64 0] 24) := ⟨_, rfl⟩
  have B0 := hid (show Below w.heap.size w W from hW ▸ (((Below.refl w.heap.size w).alloc (Nat.le_refl _) _).alloc (by simp) _).alloc (by simp; omega) _)
  have R0 : Hid (Rbox W 63 w.heap.size A n c p) := hid (hW ▸ heap3_0 w _ _ _)
  have Y0 : Hid (Rbox W 63 (w.heap.size + 1) none 0 0 0) := hid (hW ▸ heap3_1 w _ _ _)
  have Z0 : Hid (Dbox W (w.heap.size + 2) false (.slice none 0 0) 0) := hid (hW ▸ heap3_2 w _ _ _)
  have HW := hid hW
  have HX := hid h
  have hmax := h.max
  have hcap := h.cap
  have hlen := h.len
  have HWS := hid (show w.heap.size + 3 ≤ W.heap.size by have := Z0.out.lt; omega)
  clear hW h
  have C := rfMay_any A n c p W hmax
  have b0 := R0.out.c0
  have b1 := R0.out.c1
  by_cases h1 : 0 ≤ p ∧ p ≤ (n : Int)
  · rw [bool_of_dec h1] at C
    have HC := hid C
    obtain ⟨q, rfl⟩ : ∃ q : Nat, p = q := ⟨p.toNat, by omega⟩
    have HDE : Hid (dEr n xs (q : Int) = dE (xs.drop q)) := hid (by unfold dEr; rw [if_pos h1]; rfl)
    obtain ⟨m, hm⟩ : ∃ m, m = n - q := ⟨_, rfl⟩
    have hqn : q ≤ n := by omega
    have hqc : q ≤ c := by omega
    have hnq : n - q = m := hm.symm
    have HL : Hid ((xs.drop q).length = m) := hid (by rw [List.length_drop, hlen, hnq])
    have hmi : (n : Int) - (q : Int) = (m : Int) := by omega
    have Hm := hid hm
    clear C hm
    have hcase : n = 0 ∨ (0 < n ∧ m < 4) ∨ 4 ≤ m := by omega
    rcases hcase with h0 | ⟨h0, h4⟩ | h4
    · have hm4 : (m : Int) < 4 := by omega
      have HE : Hid ((40 : Int) = dEr n xs (q : Int)) := hid (by rw [HDE.out]; exact dE_short (.inl (by rw [HL.out]; omega)))
      clear h0
      go_enter Tryz.func104, Tryz.ntmps104
      go_upto_region 1 with fail
      rw [← HW.out]
      go_wp2_with fail
      refine HC.out.mono ?_
      rintro e w1 ⟨rfl, hb1⟩
      have R1 := hid (R0.out.below hb1.out R0.out.lt)
      have Y1 := hid (Y0.out.below hb1.out Y0.out.lt)
      have Z1 := hid (Z0.out.below hb1.out Z0.out.lt)
      have B1 := hid (B0.out.trans (hb1.out.mono B0.out.size))
      have e0 := R1.out.c0
      have e1 := R1.out.c1
      have HB1 := hid (show W.heap.size ≤ w1.heap.size from hb1.out.size)
      clear b0 b1 HC hb1
      have f0 := Y1.out.frozen 0
      have f1 := Y1.out.frozen 1
      have c0 := Y1.out.c0
      have c1 := Y1.out.c1
      have g0 := Z1.out.frozen 0
      have g1 := Z1.out.frozen 1
      have g2 := Z1.out.frozen 2
      have d0 := Z1.out.c0
      have d1 := Z1.out.c1
      have d2 := Z1.out.c2
      cases A with
      | none =>
        go_wp2
        refine ret_rest_dyad rfl rfl rfl rfl rfl (((((Y1.out.set0 (D := none) (m := 0) (d := 0)).set1 0).far (k := w.heap.size + 2) (by omega) 0 (.bool false)).far (k := w.heap.size + 2) (by omega) 1 (.slice none 0 0)).far (k := w.heap.size + 2) (by omega) 2 (.int .i64 0)) (((Z1.out.far (k := w.heap.size + 1) (by omega) 0 (.slice none 0 0)).far (k := w.heap.size + 1) (by omega) 1 (.int .i64 0)).store (t := false) (u := .slice none 0 0) (y := 0)) ?_
        exact DTResT.bad HE.out (by omega) (below_put3 (((B1.out).setCell (p := ⟨w.heap.size + 1, 0, none⟩) (by simp) _).setCell (p := ⟨w.heap.size + 1, 1, none⟩) (by simp) _) (by omega))
      | some a =>
        obtain ⟨ab, ao, ap⟩ := a
        by_cases hcq : c = q
        all_goals
          go_wp2
          refine ret_rest_dyad rfl rfl rfl rfl rfl (((((Y1.out.set0 (D := none) (m := 0) (d := 0)).set1 0).far (k := w.heap.size + 2) (by omega) 0 (.bool false)).far (k := w.heap.size + 2) (by omega) 1 (.slice none 0 0)).far (k := w.heap.size + 2) (by omega) 2 (.int .i64 0)) (((Z1.out.far (k := w.heap.size + 1) (by omega) 0 (.slice none 0 0)).far (k := w.heap.size + 1) (by omega) 1 (.int .i64 0)).store (t := false) (u := .slice none 0 0) (y := 0)) ?_
          exact DTResT.bad HE.out (by omega) (below_put3 (((B1.out).setCell (p := ⟨w.heap.size + 1, 0, none⟩) (by simp) _).setCell (p := ⟨w.heap.size + 1, 1, none⟩) (by simp) _) (by omega))
    · obtain ⟨b, off, rfl, hbB, -⟩ := HX.out.at_ h0
      have HE : Hid ((40 : Int) = dEr n xs (q : Int)) := hid (by rw [HDE.out]; exact dE_short (.inl (by rw [HL.out]; omega)))
      go_enter Tryz.func104, Tryz.ntmps104
      go_upto_region 1 with fail
      rw [← HW.out]
      go_wp2_with fail
      refine HC.out.mono ?_
      rintro e w1 ⟨rfl, hb1⟩
      have R1 := hid (R0.out.below hb1.out R0.out.lt)
      have Y1 := hid (Y0.out.below hb1.out Y0.out.lt)
      have Z1 := hid (Z0.out.below hb1.out Z0.out.lt)
      have B1 := hid (B0.out.trans (hb1.out.mono B0.out.size))
      have e0 := R1.out.c0
      have e1 := R1.out.c1
      have HB1 := hid (show W.heap.size ≤ w1.heap.size from hb1.out.size)
      clear b0 b1 HC hb1
      have f0 := Y1.out.frozen 0
      have f1 := Y1.out.frozen 1
      have c0 := Y1.out.c0
      have c1 := Y1.out.c1
      have g0 := Z1.out.frozen 0
      have g1 := Z1.out.frozen 1
      have g2 := Z1.out.frozen 2
      have d0 := Z1.out.c0
      have d1 := Z1.out.c1
      have d2 := Z1.out.c2
      have hm4 : (m : Int) < 4 := by omega
      by_cases hcq : c = q
      all_goals
        go_wp2
        refine ret_rest_dyad rfl rfl rfl rfl rfl (((((Y1.out.set0 (D := none) (m := 0) (d := 0)).set1 0).far (k := w.heap.size + 2) (by omega) 0 (.bool false)).far (k := w.heap.size + 2) (by omega) 1 (.slice none 0 0)).far (k := w.heap.size + 2) (by omega) 2 (.int .i64 0)) (((Z1.out.far (k := w.heap.size + 1) (by omega) 0 (.slice none 0 0)).far (k := w.heap.size + 1) (by omega) 1 (.int .i64 0)).store (t := false) (u := .slice none 0 0) (y := 0)) ?_
        exact DTResT.bad HE.out (by omega) (below_put3 (((B1.out).setCell (p := ⟨w.heap.size + 1, 0, none⟩) (by simp) _).setCell (p := ⟨w.heap.size + 1, 1, none⟩) (by simp) _) (by omega))
    · obtain ⟨b, off, rfl, hbB, -⟩ := HX.out.at_ (by omega)
      have hcq : c ≠ q := by omega
      go_enter Tryz.func104, Tryz.ntmps104
      go_upto_region 1 with fail
      rw [← HW.out]
      go_wp2_with fail
      refine HC.out.mono ?_
      rintro e w1 ⟨rfl, hb1⟩
      have R1 := hid (R0.out.below hb1.out R0.out.lt)
      have Y1 := hid (Y0.out.below hb1.out Y0.out.lt)
      have Z1 := hid (Z0.out.below hb1.out Z0.out.lt)
      have B1 := hid (B0.out.trans (hb1.out.mono B0.out.size))
      have e0 := R1.out.c0
      have e1 := R1.out.c1
      have HB1 := hid (show W.heap.size ≤ w1.heap.size from hb1.out.size)
      clear b0 b1 HC hb1
      have f0 := Y1.out.frozen 0
      have f1 := Y1.out.frozen 1
      have c0 := Y1.out.c0
      have c1 := Y1.out.c1
      have g0 := Z1.out.frozen 0
      have g1 := Z1.out.frozen 1
      have g2 := Z1.out.frozen 2
      have d0 := Z1.out.c0
      have d1 := Z1.out.c1
      have d2 := Z1.out.c2
      have HY := HX.out.part q n m (by omega) (Nat.le_refl _)
      rw [List.take_of_length_le (by rw [hlen]; exact Nat.le_refl _)] at HY
      replace HY := hid HY
      obtain ⟨ys, hys⟩ : ∃ ys, ys = xs.drop q := ⟨_, rfl⟩
      have HYS := hid hys
      rw [← hys] at HY HL HDE
      have HY1 := hid (HY.out.below B1.out)
      have b3 := HY1.out.cellAt (j := 3) (by omega)
      have b0 := HY1.out.cellAt (j := 0) (by omega)
      rw [Nat.add_zero] at b0
      have hcl : cntOf ys < 256 := HY.out.nth 3
      have hsl : sgOf ys < 256 := HY.out.nth 0
      rw [show ys.getD 3 0 = cntOf ys from rfl] at b3
      rw [show ys.getD 0 0 = sgOf ys from rfl] at b0
      obtain ⟨cn, hcn⟩ : ∃ cn, cn = cntOf ys := ⟨_, rfl⟩
      obtain ⟨sg, hsg⟩ : ∃ sg, sg = sgOf ys := ⟨_, rfl⟩
      rw [← hcn] at b3 hcl
      rw [← hsg] at b0 hsl
      have Hcn := hid hcn
      have Hsg := hid hsg
      have hm4 : ¬ (m : Int) < 4 := by omega
      have hw1 : IntKind.i64.wrap (4 * (cn : Int)) = 4 * (cn : Int) := IntWalk.i64_in _ (by omega)
      have hw2 : IntKind.i64.wrap (4 + 4 * (cn : Int)) = 4 + 4 * (cn : Int) := IntWalk.i64_in _ (by omega)
      have hm3 : (3 : Int) < (m : Int) := by omega
      clear hcn hsg hys
      by_cases h5 : m < 4 + 4 * cn
      · have HE : Hid ((40 : Int) = dEr n xs (q : Int)) := hid (by rw [HDE.out]; exact dE_short (.inr (by rw [HL.out, ← Hcn.out]; exact h5)))
        have h5i : (m : Int) < 4 + 4 * (cn : Int) := by omega
        go_wp2
        refine ret_rest_dyad rfl rfl rfl rfl rfl (((((Y1.out.set0 (D := none) (m := 0) (d := 0)).set1 0).far (k := w.heap.size + 2) (by omega) 0 (.bool false)).far (k := w.heap.size + 2) (by omega) 1 (.slice none 0 0)).far (k := w.heap.size + 2) (by omega) 2 (.int .i64 0)) (((Z1.out.far (k := w.heap.size + 1) (by omega) 0 (.slice none 0 0)).far (k := w.heap.size + 1) (by omega) 1 (.int .i64 0)).store (t := false) (u := .slice none 0 0) (y := 0)) ?_
        exact DTResT.bad HE.out (by omega) (below_put3 (((B1.out).setCell (p := ⟨w.heap.size + 1, 0, none⟩) (by simp) _).setCell (p := ⟨w.heap.size + 1, 1, none⟩) (by simp) _) (by omega))
      have h5i : ¬ (m : Int) < 4 + 4 * (cn : Int) := by omega
      obtain ⟨E, hE⟩ : ∃ E, E = expOf ys := ⟨_, rfl⟩
      have hEl : E < 65536 := by
        rw [hE]
        exact Nat.lt_of_lt_of_le (bn_lt (fun x hx => take_mem HY.out.lt hx)) (Nat.le_trans (Nat.pow_le_pow_right (by omega) (by rw [List.length_take]; exact Nat.min_le_left _ _)) (by decide))
      have HE2 := hid hE
      have hwE : IntKind.i64.wrap (E : Int) = (E : Int) := IntWalk.i64_in _ (by omega)
      have HS := hid (fun (w' : World) (hb : Below w1.heap.size w1 w') => ((HY1.out.mono (by have := B1.out.size; omega)).below hb).part 1 3 2 rfl (by omega))
      have hcap2 := HY1.out.cap
      have hc3 : (3 : Int) ≤ ((c - q : Nat) : Int) := by omega
      have hc1 : c - q ≠ 1 := by omega
      have hm0 : (0 : Int) < (m : Int) := by omega
      have hm00 : 0 < m := by omega
      have hm01 : m ≠ 0 := by omega
      have hsd : ((sg : Int) == 1) = decide (sg = 1) := by
        by_cases h : sg = 1
        · subst h; rfl
        · rw [decide_eq_false h]; simp; omega
      clear hE
      go_upto_region 6 with fail
      go_cut [6] (fun v6 wx => ∃ g, v6 = .pointer (some ⟨g, 0, none⟩) ∧ Hid (w1.heap.size ≤ g) ∧ Hid (Dbox wx g (decide (sg = 1)) (.slice none 0 0) (E : Int)) ∧ Hid (Below w1.heap.size w1 wx))
      case first =>
        have HB0 := hid (Below.refl w1.heap.size w1)
        have CF : Hid (∀ w', Below w1.heap.size w1 w' → w'.cell? ⟨b, off + q, none⟩ = some (.int .u8 (sg : Int))) := hid (fun w' hb => (hb.cell (p := ⟨b, off + q, none⟩) (by have := B1.out.size; show b < _; omega)).trans b0)
        go_region_held3 (fun w' => w'.cell? ⟨b, off + q, none⟩ = some (.int .u8 (sg : Int)))
          ((refine CF.out _ ?_; repeat' (first | with_reducible exact HB0.out | with_reducible refine Below.setCell ?_ ?_ _ | with_reducible refine Below.alloc ?_ ?_ _ | with_reducible refine Below.drew ?_ | with_reducible exact Nat.le_refl _ | (simp; done) | (simp; omega))))
          (first
          | (go_at_call 115
             refine (rOf_any (HS.out _ (by (repeat' (first | with_reducible exact HB0.out | with_reducible refine Below.alloc ?_ ?_ _ | with_reducible refine Below.drew ?_ | with_reducible exact Nat.le_refl _)))) (by omega)).mono ?_
             rintro e wx ⟨rfl, rfl⟩
             rw [List.drop_take, show 3 - 1 = 2 from rfl, show bn ((ys.drop 1).take 2) = expOf ys from rfl, ← HE2.out]))
        all_goals
          clear CF HS
          go_wp2_with fail
          go_meet
          exact ⟨_, rfl, hid (Nat.le_refl _), hid (heap_alloc_new w1 _), hid (((Below.refl w1.heap.size w1).alloc (Nat.le_refl _) _).drew)⟩
      obtain ⟨g, rfl, hg, hP, hb2⟩ := hcut
      have hlf : ∀ j, limOf ys j < 4294967296 := fun j => by rw [HYS.out]; exact lim_lt HX.out.lt j
      have HN := hid (fun k (h : k < cntOf ys) => (show bn ((xs.drop (q + 4 + 4 * k)).take 4) = limOf ys k by rw [HYS.out] at h ⊢; exact limOf_succ h))
      have Hout : Hid (∀ j, cn ≤ j → limOf ys j = 0) := hid (fun j hj => by unfold limOf; exact lof_out (by rw [← Hcn.out]; exact hj))
      obtain ⟨lf, hlfe⟩ : ∃ lf, lf = limOf ys := ⟨_, rfl⟩
      rw [← hlfe] at hlf HN Hout
      have Hlf := hid hlfe
      have HF := hid hlf
      obtain ⟨sb, hsb⟩ : ∃ sb, sb = decide (sg = 1) := ⟨_, rfl⟩
      rw [← hsb] at hP
      have Hsb := hid hsb
      have hgl := hP.out.lt
      have HB12 := hid (show w.heap.size + 3 ≤ w1.heap.size by have := HWS.out; have := HB1.out; omega)
      have hg1 := hg.out
      have HbB := hid (show b < w1.heap.size by have := HB12.out; omega)
      have HPL := hid (fun (w' : World) (hb : Below w1.heap.size w1 w') => (hb.cell (p := ⟨b, off + q + 3, none⟩) HbB.out).trans b3)
      have HPL0 := hid (fun (w' : World) (hb : Below w1.heap.size w1 w') => (hb.cell (p := ⟨b, off + q, none⟩) HbB.out).trans b0)
      have Hce := hid (show IntKind.i64.wrap (E : Int) = (E : Int) from hwE)
      clear hlf hlfe hsb hsd e0 e1 f0 f1 c0 c1 g0 g1 g2 d0 d1 d2 b3 b0 hc3 hc1 hm0 hm00 hm01 hwE
      go_wp2_with fail
      go_loopw [7] (fun i wr => ∃ (k : Nat) (v : Value), k ≤ cn ∧ i = .int .i64 (k : Int) ∧ Hid (Dbox wr g sb v (E : Int)) ∧ Hid (Lgr wr wc.heap.size lf k v) ∧ Hid (Below w1.heap.size w1 wr) ∧ Hid (wc.heap.size ≤ wr.heap.size)) (fun i _ => cn - (intOf i).toNat)
      case atStart => exact ⟨0, _, Nat.zero_le _, rfl, hP, Lgr.nil _ _ _, hb2, hid (Nat.le_refl _)⟩
      case round =>
        obtain ⟨k, v, hk, rfl, hD, hL, hb, hsz⟩ := hrel
        have r3 := HPL.out _ hb.out
        by_cases hcon : k < cn
        · have hki : (k : Int) < (cn : Int) := by omega
          obtain ⟨U, hU⟩ : ∃ U, U = lf k := ⟨_, rfl⟩
          have hUl : U < 4294967296 := by rw [hU]; exact HF.out k
          have hwU : IntKind.u32.wrap (U : Int) = (U : Int) := by rw [IntKind.wrap_u32]; omega
          obtain ⟨Lo, hLo⟩ : ∃ Lo : Nat, Lo = 4 + 4 * k := ⟨_, rfl⟩
          obtain ⟨Hi, hHi⟩ : ∃ Hi : Nat, Hi = 8 + 4 * k := ⟨_, rfl⟩
          have hwk : IntKind.i64.wrap (4 * (k : Int)) = 4 * (k : Int) := IntWalk.i64_in _ (by omega)
          have hwLo : IntKind.i64.wrap (4 + 4 * (k : Int)) = (Lo : Int) := by rw [IntWalk.i64_in _ (by omega)]; omega
          have hwHi : IntKind.i64.wrap (8 + 4 * (k : Int)) = (Hi : Int) := by rw [IntWalk.i64_in _ (by omega)]; omega
          have hLH : Hi - Lo = 4 := by omega
          have hLH2 : Lo ≤ Hi := by omega
          have hHc : (Hi : Int) ≤ ((c - q : Nat) : Int) := by omega
          have hcLo : c - q ≠ Lo := by omega
          have hLo0 : (0 : Int) ≤ (Lo : Int) := by omega
          have CO : Hid (Calls Tryz.prog 115 #[.slice (some ⟨b, off + q + Lo, none⟩) 4 (c - q - Lo)] wr.drew fun e w' => e = .returned (.int .u64 (U : Int)) ∧ w' = wr.drew) := hid (by
            have hY := (((HY1.out.mono (by have := B1.out.size; omega)).below (hb.out.drew)).part Lo Hi 4 (by omega) (by omega))
            refine (rOf_any hY (by omega)).mono (fun e w' h => ⟨h.1.trans ?_, h.2.symm⟩)
            rw [List.drop_take, show Hi - Lo = 4 by omega, hLo, HYS.out, List.drop_drop, ← Nat.add_assoc, HN.out k (by rw [← Hcn.out]; exact hcon), ← hU])
          have D2 := hid hD.out.drew
          have L2 : Hid (Lgr wr.drew wc.heap.size lf k v) := hid hL.out
          have hb3 := hid hb.out.drew
          have hc1 := D2.out.c1
          have hf1 := D2.out.frozen 1
          have hc0 := D2.out.c0
          have hc2 := D2.out.c2
          have HU := hid hU
          have hk1 : IntKind.i64.wrap ((k : Int) + 1) = (k : Int) + 1 := IntWalk.i64_in _ (by omega)
          have Hsz2 : Hid (wc.heap.size ≤ wr.drew.heap.size) := hsz
          clear hU hLo hHi
          have HD0 := hid hD.out
          have HLT := hid (hP.out.lt)
          have hgr := Nat.lt_of_lt_of_le hP.out.lt hsz.out
          have bw : ∀ o : Obj, (wr.alloc o).cell? ⟨g, 1, none⟩ = some v := fun o => (hD.out.alloc o).c1
          have HB2s := hid (show w1.heap.size ≤ wc.heap.size from hb2.out.size)
          have HK := hid (show k ≤ 1000 by omega)
          have HKs := hid (show k < cn from hcon)
          have HKn := hid (show IntKind.i64.wrap ((k : Int) + 1) = (k : Int) + 1 from hk1)
          go_upto_region 10 with fail
          have hc1q : wr.cell? ⟨g, 1, none⟩ = some v := hD.out.c1
          clear hpp h1 hmax hcap hlen hqn hqc hnq hmi h4 h5 h5i hm4 hw1 hw2 hm3 hcl hsl hEl r3 hc0 hc2 hc1 hf1 hgl hgr hk hcap2 hbB hcq
          go_region_law (first
            | (refine step_app_limb (B := wc.heap.size) (v := v) rfl (.tmp 52) (.tmp 63) (by with_reducible rfl) (by rfl) (by rfl) (by first | with_reducible exact (Lgr.alloc' hL.out _).drew' | with_reducible exact Lgr.alloc' hL.out _ | with_reducible exact Lgr.alloc' hL.out.drew' _) (by have := hsz.out; simp; omega) (by first | with_reducible exact hb_y1 wr _ | with_reducible exact hb_y2 wr _) HU.out HK.out ?_
               intro v5 w5 hL5 hb5
               obtain ⟨A5, c5, rfl⟩ := hL5.out.shape'
               have HB5 := (by first | with_reducible exact y_b1 hb.out hb.out.size hb5 HB2s.out | with_reducible exact y_b2 hb.out hb.out.size hb5 HB2s.out)
               have HS5 := (by first | with_reducible exact y_s1 hsz.out hb5 | with_reducible exact y_s2 hsz.out hb5)
               have D5 := (by first | with_reducible exact y_d1 hD.out hb5 HLT.out | with_reducible exact y_d2 hD.out hb5 HLT.out)
               have q0 := D5.out.frozen 0
               have q1 := D5.out.frozen 1
               have q2 := D5.out.frozen 2
               have q3 := D5.out.c1)
            | (go_simp
               go_at_call 115
               refine CO.out.mono ?_
               rintro e wx ⟨rfl, rfl⟩))
          all_goals
            go_wp2
            go_roundw
            case rel =>
              refine ⟨k + 1, .slice A5 (k + 1) c5, HKs.out, by go_num, hid ?_, hid ?_, hid ?_, hid ?_⟩
              · exact D5.out.set1 _
              · exact hL5.out.grown (jgset0 (jgrefl w5 g) 1 _) HLT.out
              · exact HB5.out.setCell (p := ⟨g, 1, none⟩) hg1 _
              · simpa [World.setCell] using HS5.out
            case measure => have := HKs.out; simp [intOf]; omega
        · obtain rfl : k = cn := by omega
          obtain ⟨A5, c5, rfl, M5⟩ := mk_of_row hL.out (by omega) HF.out Hout.out
          have HM5 := hid M5
          have r0 := HPL0.out _ hb.out
          have hki : ¬ (k : Int) < (k : Int) := by omega
          have hm3' := hm3
          have hm0 : (0 : Int) < (m : Int) := by omega
          have hm00 : 0 < m := by omega
          have Yr := hid (Y1.out.below hb.out (by have := HB12.out; omega))
          have Zr := hid (Z1.out.below hb.out (by have := HB12.out; omega))
          have Rr := hid (R1.out.below hb.out (by have := HB12.out; omega))
          have Br := hid (B1.out.trans (hb.out.mono (by have := HB12.out; omega)))
          have HLen : Hid (¬ (ys.length < 4 ∨ ys.length < 4 + 4 * cntOf ys)) := hid (by rw [HL.out, ← Hcn.out]; omega)
          have Hszg := hid (show g < wr.heap.size from hD.out.lt)
          clear M5 hL
          by_cases hsg1 : 1 < sg
          · have HE : Hid ((41 : Int) = dEr n xs (q : Int)) := hid (by rw [HDE.out]; unfold dE; rw [if_neg HLen.out, if_neg (by rw [← Hsg.out]; omega)])
            have hsgi : (1 : Int) < (sg : Int) := by omega
            have f0 := Yr.out.frozen 0
            have f1 := Yr.out.frozen 1
            have c0 := Yr.out.c0
            have c1 := Yr.out.c1
            have g0 := Zr.out.frozen 0
            have g1 := Zr.out.frozen 1
            have g2 := Zr.out.frozen 2
            have d0 := Zr.out.c0
            have d1 := Zr.out.c1
            have d2 := Zr.out.c2
            go_wp2
            refine ret_rest_dyad rfl rfl rfl rfl rfl (((((Yr.out.set0 (D := none) (m := 0) (d := 0)).set1 0).far (k := w.heap.size + 2) (by omega) 0 (.bool false)).far (k := w.heap.size + 2) (by omega) 1 (.slice none 0 0)).far (k := w.heap.size + 2) (by omega) 2 (.int .i64 0)) (((Zr.out.far (k := w.heap.size + 1) (by omega) 0 (.slice none 0 0)).far (k := w.heap.size + 1) (by omega) 1 (.int .i64 0)).store (t := false) (u := .slice none 0 0) (y := 0)) ?_
            exact DTResT.bad HE.out (by omega) (below_put3 (((Br.out).setCell (p := ⟨w.heap.size + 1, 0, none⟩) (by simp) _).setCell (p := ⟨w.heap.size + 1, 1, none⟩) (by simp) _) (by omega))
          · have hsgi : ¬ (1 : Int) < (sg : Int) := by omega
            have CM := hid (emay_any HM5.out.rd sb (E : Int))
            have dc0 := hD.out.c0
            have dc1 := hD.out.c1
            have dc2 := hD.out.c2
            go_wp2_with fail
            refine CM.out.mono ?_
            rintro e w6 ⟨rfl, hb6⟩
            have Y6 := hid (Yr.out.below hb6.out Yr.out.lt)
            have Z6 := hid (Zr.out.below hb6.out Zr.out.lt)
            have R6 := hid (Rr.out.below hb6.out Rr.out.lt)
            have D6 := hid (hD.out.below hb6.out hD.out.lt)
            have B6 := hid (Br.out.trans (hb6.out.mono Br.out.size))
            have b6 := hid (hb.out.trans (hb6.out.mono hb.out.size))
            have M6 := hid (HM5.out.below hb6.out (Nat.le_refl _))
            clear dc0 dc1 dc2 r0 r3
            by_cases hmay : DMay sb k lf (E : Int)
            · rw [bool_of_dec hmay]
              have HE : Hid ((0 : Int) = dEr n xs (q : Int)) := hid (by rw [HDE.out]; unfold dE; rw [if_neg HLen.out, if_pos (by rw [← Hsg.out, ← Hcn.out, ← Hlf.out, ← HE2.out, ← Hsb.out]; exact ⟨by omega, hmay⟩)])
              obtain ⟨P, hP0⟩ : ∃ P : Nat, P = q + (4 + 4 * k) := ⟨_, rfl⟩
              have HP := hid hP0
              have hwq : IntKind.i64.wrap ((q : Int) + 4) = (q : Int) + 4 := IntWalk.i64_in _ (by omega)
              have hwP : IntKind.i64.wrap ((q : Int) + 4 + 4 * (k : Int)) = (P : Int) := by rw [IntWalk.i64_in _ (by omega)]; omega
              have r3 : w6.cell? ⟨b, off + q + 3, none⟩ = some (.int .u8 (k : Int)) := HPL.out _ b6.out
              have e0 := R6.out.c0
              have e1 := R6.out.c1
              have x0 := D6.out.c0
              have x1 := D6.out.c1
              have x2 := D6.out.c2
              clear hmay hP0
              go_wp2_with fail
              go_upto_region 13 with fail
              have Y7 := hid Y6.out.drew
              have Z7 := hid Z6.out.drew
              have B7 := hid B6.out.drew
              have M7 : Hid (Mk w6.drew 75 wc.heap.size A5 k c5 lf) := hid (M6.out.below (Below.refl _ _).drew (Nat.le_refl _))
              have f0 := Y6.out.frozen 0
              have f1 := Y6.out.frozen 1
              have c0 := Y6.out.c0
              have c1 := Y6.out.c1
              have g0 := Z6.out.frozen 0
              have g1 := Z6.out.frozen 1
              have g2 := Z6.out.frozen 2
              have d0 := Z6.out.c0
              have d1 := Z6.out.c1
              have d2 := Z6.out.c2
              have gn1 : g ≠ w.heap.size + 1 := by have := HB12.out; have := hg.out; omega
              have gn2 : g ≠ w.heap.size + 2 := by have := HB12.out; have := hg.out; omega
              have gn3 : g ≠ w.heap.size + 1 + 1 := by have := HB12.out; have := hg.out; omega
              have bn1 : b ≠ w.heap.size + 1 := by omega
              have bn2 : b ≠ w.heap.size + 2 := by omega
              have bn3 : b ≠ w.heap.size + 1 + 1 := by omega
              go_region
              all_goals trace "ONE"
              all_goals clear e0 e1 x0 x1 x2 r3
              all_goals clear f0 f1 c0 c1 g0 g1 g2 d0 d1 d2 gn1 gn2 gn3 bn1 bn2 bn3
              all_goals
                go_wp2
                have Hwc := hid (show w.heap.size + 3 ≤ wc.heap.size by have := HB12.out; have := hb2.out.size; omega)
                have HT : Hid (((q : Nat) : Int).toNat = q) := hid (by omega)
                have Y4 := (((((Y6.out.set0 (D := some ⟨b, off, none⟩) (m := n) (d := c)).set1 (P : Int)).far (k := w.heap.size + 1 + 1) (by omega) 0 (.bool sb)).far (k := w.heap.size + 1 + 1) (by omega) 1 (.slice A5 k c5)).far (k := w.heap.size + 1 + 1) (by omega) 2 (.int .i64 (E : Int))).drew
                have Z4 := (((Z6.out.far (k := w.heap.size + 1) (by omega) 0 (.slice (some ⟨b, off, none⟩) n c)).far (k := w.heap.size + 1) (by omega) 1 (.int .i64 (P : Int))).store (t := sb) (u := .slice A5 k c5) (y := (E : Int))).drew
                have B4 := (below_put3 (s := sb) (v := .slice A5 k c5) (x := (E : Int)) (((B6.out.setCell (p := ⟨w.heap.size + 1, 0, none⟩) (by simp) (.slice (some ⟨b, off, none⟩) n c)).setCell (p := ⟨w.heap.size + 1, 1, none⟩) (by simp) (.int .i64 (P : Int)))) (show w.heap.size ≤ w.heap.size + 1 + 1 by omega)).drew
                have M4 := ((((M6.out.far (g := w.heap.size + 1) (by have := Hwc.out; omega) 0 (.slice (some ⟨b, off, none⟩) n c)).far (g := w.heap.size + 1) (by have := Hwc.out; omega) 1 (.int .i64 (P : Int))).put3 (g := w.heap.size + 1 + 1) (s := sb) (u := .slice A5 k c5) (x := (E : Int)) (by have := Hwc.out; omega)).below ((Below.refl _ _).drew) (Nat.le_refl _)).mono (B' := w.heap.size) (by have := Hwc.out; omega)
                obtain ⟨V, hV⟩ : ∃ V, V = (put3 ((w6.setCell ⟨w.heap.size + 1, 0, none⟩ (.slice (some ⟨b, off, none⟩) n c)).setCell ⟨w.heap.size + 1, 1, none⟩ (.int .i64 (P : Int))) (w.heap.size + 1 + 1) sb (.slice A5 k c5) (E : Int)).drew := ⟨_, rfl⟩
                have Y5 : Rbox V 63 (w.heap.size + 1) (some ⟨b, off, none⟩) n c (P : Int) := hV ▸ Y4
                have Z5 : Dbox V (w.heap.size + 1 + 1) sb (.slice A5 k c5) (E : Int) := hV ▸ Z4
                have B5 : Below w.heap.size w V := hV ▸ B4
                have M5 : Mk V 75 w.heap.size A5 k c5 lf := hV ▸ M4
                clear Y4 Z4 B4 M4
                unfold put3 at hV
                rw [← hV]
                refine ret_rest_dyad rfl rfl rfl rfl rfl Y5 Z5 ?_
                refine ⟨some ⟨b, off, none⟩, n, c, (P : Int), sb, A5, k, c5, (E : Int), 0, lf, rfl, HE, hid (fun _ => ⟨rfl, rfl, rfl, ?_⟩), M5, ?_, fun h => absurd rfl h, B5⟩
                · rw [HT.out, ← HYS.out, ← Hcn.out]
                  have := HP.out
                  omega
                · rw [HT.out, ← HYS.out]
                  exact hid (fun _ => ⟨by rw [Hsb.out, Hsg.out], Hcn.out, Hlf.out, by rw [HE2.out]⟩)
            · rw [bool_of_not hmay]
              have HE : Hid ((41 : Int) = dEr n xs (q : Int)) := hid (by rw [HDE.out]; unfold dE; rw [if_neg HLen.out, if_neg (by rw [← Hsg.out, ← Hcn.out, ← Hlf.out, ← HE2.out, ← Hsb.out]; exact fun h => hmay h.2)])
              clear hmay
              have f0 := Y6.out.frozen 0
              have f1 := Y6.out.frozen 1
              have c0 := Y6.out.c0
              have c1 := Y6.out.c1
              have g0 := Z6.out.frozen 0
              have g1 := Z6.out.frozen 1
              have g2 := Z6.out.frozen 2
              have d0 := Z6.out.c0
              have d1 := Z6.out.c1
              have d2 := Z6.out.c2
              go_wp2
              refine ret_rest_dyad rfl rfl rfl rfl rfl (((((Y6.out.set0 (D := none) (m := 0) (d := 0)).set1 0).far (k := w.heap.size + 2) (by omega) 0 (.bool false)).far (k := w.heap.size + 2) (by omega) 1 (.slice none 0 0)).far (k := w.heap.size + 2) (by omega) 2 (.int .i64 0)) (((Z6.out.far (k := w.heap.size + 1) (by omega) 0 (.slice none 0 0)).far (k := w.heap.size + 1) (by omega) 1 (.int .i64 0)).store (t := false) (u := .slice none 0 0) (y := 0)) ?_
              exact DTResT.bad HE.out (by omega) (below_put3 (((B6.out).setCell (p := ⟨w.heap.size + 1, 0, none⟩) (by simp) _).setCell (p := ⟨w.heap.size + 1, 1, none⟩) (by simp) _) (by omega))
  · rw [bool_of_not h1] at C
    have HC := hid C
    have HE : Hid ((8 : Int) = dEr n xs p) := hid (by unfold dEr; rw [if_neg h1])
    clear C
    go_enter Tryz.func104, Tryz.ntmps104
    go_upto_region 1 with fail
    rw [← HW.out]
    go_wp2_with fail
    refine HC.out.mono ?_
    rintro e w1 ⟨rfl, hb1⟩
    have R1 := hid (R0.out.below hb1.out R0.out.lt)
    have Y1 := hid (Y0.out.below hb1.out Y0.out.lt)
    have Z1 := hid (Z0.out.below hb1.out Z0.out.lt)
    have B1 := hid (B0.out.trans (hb1.out.mono B0.out.size))
    have e0 := R1.out.c0
    have e1 := R1.out.c1
    have HB1 := hid (show W.heap.size ≤ w1.heap.size from hb1.out.size)
    clear b0 b1 HC hb1
    have f0 := Y1.out.frozen 0
    have f1 := Y1.out.frozen 1
    have c0 := Y1.out.c0
    have c1 := Y1.out.c1
    have g0 := Z1.out.frozen 0
    have g1 := Z1.out.frozen 1
    have g2 := Z1.out.frozen 2
    have d0 := Z1.out.c0
    have d1 := Z1.out.c1
    have d2 := Z1.out.c2
    go_wp2
    refine ret_rest_dyad rfl rfl rfl rfl rfl (((((Y1.out.set0 (D := none) (m := 0) (d := 0)).set1 0).far (k := w.heap.size + 2) (by omega) 0 (.bool false)).far (k := w.heap.size + 2) (by omega) 1 (.slice none 0 0)).far (k := w.heap.size + 2) (by omega) 2 (.int .i64 0)) (((Z1.out.far (k := w.heap.size + 1) (by omega) 0 (.slice none 0 0)).far (k := w.heap.size + 1) (by omega) 1 (.int .i64 0)).store (t := false) (u := .slice none 0 0) (y := 0)) ?_
    exact DTResT.bad HE.out (by omega) (below_put3 (((B1.out).setCell (p := ⟨w.heap.size + 1, 0, none⟩) (by simp) _).setCell (p := ⟨w.heap.size + 1, 1, none⟩) (by simp) _) (by omega))
end Go.Proofs.YtbankbehfjogpaaGreat
