/- Words for slices of uint32 in memory: what is read, and what a call made of its own. No program is named here. -/
import Derived.WalkKit
import Derived.WalkSpells
import Derived.WalkLawsBesides
import Derived.BigQuiet
import Derived.Deep.QuietTactic
import Derived.Laws.CopyOwn
import Derived.Deep.DeepCutAuto
import Derived.Deep.LoopGhost
import Derived.Deep.CutBlock
import Derived.Test.YtdcolnipdipkhaaMath
namespace Go.Proofs.Ytdcolnipdipkhaa
open Go.RowKit

/-- A fact laid away from the walk. -/
theorem hid {p : Prop} (h : p) : Hid p := h

theorem drewN2 (w : World) (a b : Nat) : w.drewN (a + b) = (w.drewN a).drewN b := (World.drewN_drewN _ _ _).symm
theorem drewN3 (w : World) (a b c : Nat) : w.drewN (a + b + c) = ((w.drewN a).drewN b).drewN c := by rw [drewN2, drewN2]
theorem info_one {P : Program} {e : TypeId} {z : Value} {size bytes : Nat} (h : (P.info? e).map (fun i => (i.zero, i.size, i.bytes)) = some (some z, size, bytes)) :
    ∃ i, P.info? e = some i ∧ i.zero = some z ∧ i.size = size ∧ i.bytes = bytes := info_parts h

/-- The slice value '.slice A n c' reads, in the world w, as the limbs f 0 .. f (n - 1), below block B. -/
structure Rd (w : World) (B : Nat) (A : Option Addr) (n c : Nat) (f : Nat → Nat) : Prop where
  cap : n ≤ c
  max : n ≤ 140737488355328
  lt : ∀ j, f j < 4294967296
  out : ∀ j, n ≤ j → f j = 0
  at_ : 0 < n → ∃ b off, A = some ⟨b, off, none⟩ ∧ b < B ∧ ∀ j, j < n → w.cell? ⟨b, off + j, none⟩ = some (.int .u32 (f j : Int))

theorem Rd.below {w w' : World} {B n c : Nat} {A : Option Addr} {f : Nat → Nat} (h : Rd w B A n c f) (hb : Below B w w') : Rd w' B A n c f :=
  ⟨h.cap, h.max, h.lt, h.out, fun hn => by
    obtain ⟨b, off, rfl, hB, hc⟩ := h.at_ hn
    exact ⟨b, off, rfl, hB, fun j hj => (hb.cell (p := ⟨b, off + j, none⟩) hB).trans (hc j hj)⟩⟩
theorem Rd.mono {w : World} {B B' n c : Nat} {A : Option Addr} {f : Nat → Nat} (h : Rd w B A n c f) (hb : B ≤ B') : Rd w B' A n c f :=
  ⟨h.cap, h.max, h.lt, h.out, fun hn => by
    obtain ⟨b, off, rfl, hB, hc⟩ := h.at_ hn
    exact ⟨b, off, rfl, by omega, hc⟩⟩
theorem Rd.drewN {w : World} {B n c : Nat} {A : Option Addr} {f : Nat → Nat} (h : Rd w B A n c f) (q : Nat) : Rd (w.drewN q) B A n c f :=
  h.below (below_drewN (Below.refl _ _) q)
theorem Rd.ne {w : World} {B n c g : Nat} {A : Option Addr} {f : Nat → Nat} (h : Rd w B A n c f) (hg : B ≤ g) (hn : 0 < n) (b off : Nat) (hA : A = some ⟨b, off, none⟩) : b ≠ g := by
  obtain ⟨b', off', rfl, hB, _⟩ := h.at_ hn
  injection hA with hA
  injection hA with h1
  omega
theorem Rd.nil (w : World) (B : Nat) : Rd w B none 0 0 (fun _ => 0) :=
  ⟨Nat.le_refl _, by omega, fun _ => by show 0 < 4294967296; omega, fun _ _ => rfl, fun h => absurd h (by omega)⟩

/-- Block g is a row of n cells of type e, the numbers f 0 .. f (n - 1). -/
def Blk (w : World) (e : TypeId) (g n : Nat) (f : Nat → Nat) : Prop :=
  ∃ cs : Array Value, w.heap[g]? = some (.cells cs e (0, 0)) ∧ cs.size = n ∧ ∀ j, j < n → cs[j]? = some (.int .u32 (f j : Int))

section
variable {w w' : World} {e : TypeId} {g n : Nat} {f : Nat → Nat}
theorem lt_of_heap {o : Obj} (h : w.heap[g]? = some o) : g < w.heap.size := by
  rcases Nat.lt_or_ge g w.heap.size with hlt | hge
  · exact hlt
  · rw [Array.getElem?_eq_none hge] at h; cases h
theorem Blk.lt (h : Blk w e g n f) : g < w.heap.size := by
  obtain ⟨cs, h, _⟩ := h
  exact lt_of_heap h
theorem Blk.cell (h : Blk w e g n f) {j : Nat} (hj : j < n) : w.cell? ⟨g, j, none⟩ = some (.int .u32 (f j : Int)) := by
  obtain ⟨cs, h, _, hc⟩ := h
  rw [cell_of_row w g j cs e (0, 0) h]
  exact hc j hj
theorem Blk.frozen (h : Blk w e g n f) (j : Nat) : w.frozen? ⟨g, j, none⟩ = false := by
  obtain ⟨cs, h, _⟩ := h
  exact frozen_of_row w g j cs e h
theorem Blk.drew (h : Blk w e g n f) : Blk w.drew e g n f := h
theorem Blk.drewN (h : Blk w e g n f) (q : Nat) : Blk (w.drewN q) e g n f := h
theorem Blk.alloc (h : Blk w e g n f) (o : Obj) : Blk (w.alloc o) e g n f := by
  have hl := h.lt
  obtain ⟨cs, h, h2⟩ := h
  exact ⟨cs, (Below.heap_alloc w o g hl).trans h, h2⟩
theorem Blk.far (h : Blk w e g n f) {p : Addr} (hp : g ≠ p.block) (v : Value) : Blk (w.setCell p v) e g n f := by
  obtain ⟨cs, h, h2⟩ := h
  exact ⟨cs, (Below.heap_setCell w p v g hp).trans h, h2⟩
theorem Blk.below {B : Nat} (h : Blk w e g n f) (hb : Below B w w') (hg : g < B) : Blk w' e g n f := by
  obtain ⟨cs, h, h2⟩ := h
  exact ⟨cs, (hb.block g hg).trans h, h2⟩
theorem Blk.grown {row : Option Nat} (h : Blk w e g n f) (hb : w.grownBy w' row) (hg : some g ≠ row) : Blk w' e g n f := by
  have hl := h.lt
  obtain ⟨cs, h, h2⟩ := h
  exact ⟨cs, (hb.block g hl hg).trans h, h2⟩
theorem Blk.set (h : Blk w e g n f) (i x : Nat) : Blk (w.setCell ⟨g, i, none⟩ (.int .u32 (x : Int))) e g n (fun j => if j = i then x else f j) := by
  obtain ⟨cs, h, hs, hc⟩ := h
  refine ⟨cs.setIfInBounds i (.int .u32 (x : Int)), heap_setCell_same w g i cs e _ h, by simpa using hs, fun j hj => ?_⟩
  rw [Array.getElem?_setIfInBounds]
  by_cases hji : i = j
  · subst hji
    simp [hs, hj]
  · rw [if_neg hji]
    have hji2 : ¬ j = i := by omega
    simp only [if_neg hji2]
    exact hc j hj
theorem Blk.congr {f' : Nat → Nat} (h : Blk w e g n f) (hf : ∀ j, j < n → f j = f' j) : Blk w e g n f' := by
  obtain ⟨cs, h, hs, hc⟩ := h
  exact ⟨cs, h, hs, fun j hj => by rw [← hf j hj]; exact hc j hj⟩
theorem Blk.zeros (w : World) (e : TypeId) (n : Nat) : Blk (w.alloc (.cells (madeCells #[.int .u32 0] n) e)) e w.heap.size n (fun _ => 0) := by
  refine ⟨_, heap_alloc_new w _, by simp [madeCells], fun j hj => ?_⟩
  have h := toList_madeCells_one (.int .u32 0) n
  rw [← Array.getElem?_toList, h]
  simp [hj]

theorem Blk.rd {B : Nat} (h : Blk w e g n f) (hg : g < B) (hn : n ≤ 140737488355328) (hlt : ∀ j, f j < 4294967296) (hout : ∀ j, n ≤ j → f j = 0) : Rd w B (some ⟨g, 0, none⟩) n n f :=
  ⟨Nat.le_refl _, hn, hlt, hout, fun _ => ⟨g, 0, rfl, hg, fun j hj => by rw [Nat.zero_add]; exact h.cell hj⟩⟩

/-- Block g is one cell. -/
def Box (w : World) (g : Nat) (t : TypeId) (v : Value) : Prop := w.heap[g]? = some (.cells #[v] t (0, 0))
variable {t : TypeId} {v : Value}
theorem Box.lt (h : Box w g t v) : g < w.heap.size := lt_of_heap h
theorem Box.cell (h : Box w g t v) : w.cell? ⟨g, 0, none⟩ = some v := by
  rw [cell_of_row w g 0 #[v] t (0, 0) h]; rfl
theorem Box.frozen (h : Box w g t v) : w.frozen? ⟨g, 0, none⟩ = false := frozen_of_row w g 0 #[v] t h
theorem Box.new (w : World) (t : TypeId) (v : Value) : Box (w.alloc (.cells #[v] t)) w.heap.size t v := heap_alloc_new w _
theorem Box.new' {w : World} {t : TypeId} {v : Value} {g : Nat} (hg : g = w.heap.size) : Box (w.alloc (.cells #[v] t)) g t v := by subst hg; exact Box.new w t v
theorem Blk.zeros' {w : World} {e : TypeId} {n g : Nat} (hg : g = w.heap.size) : Blk (w.alloc (.cells (madeCells #[.int .u32 0] n) e)) e g n (fun _ => 0) := by subst hg; exact Blk.zeros w e n
theorem Box.drew (h : Box w g t v) : Box w.drew g t v := h
theorem Box.drewN (h : Box w g t v) (q : Nat) : Box (w.drewN q) g t v := h
theorem Box.alloc (h : Box w g t v) (o : Obj) : Box (w.alloc o) g t v := (Below.heap_alloc w o g h.lt).trans h
theorem Box.far (h : Box w g t v) {p : Addr} (hp : g ≠ p.block) (x : Value) : Box (w.setCell p x) g t v := (Below.heap_setCell w p x g hp).trans h
theorem Box.set (h : Box w g t v) (x : Value) : Box (w.setCell ⟨g, 0, none⟩ x) g t x := heap_setCell_same w g 0 #[v] t x h
theorem Box.below {B : Nat} (h : Box w g t v) (hb : Below B w w') (hg : g < B) : Box w' g t v := (hb.block g hg).trans h
theorem Box.grown {row : Option Nat} (h : Box w g t v) (hb : w.grownBy w' row) (hg : some g ≠ row) : Box w' g t v := (hb.block g h.lt hg).trans h
theorem Box.ne {n : Nat} {f : Nat → Nat} (h : Box w g t v) {g' : Nat} (h' : Blk w e g' n f) (hne : e ≠ t) : g' ≠ g := by
  rintro rfl
  obtain ⟨cs, h', _⟩ := h'
  unfold Box at h
  rw [h] at h'
  injection h' with h'
  injection h' with _ ht
  exact hne ht.symm
end

/-- Behind stores into a new block and into block g, 'grownBy' g still holds. -/
theorem put_grown {w wr : World} {g gb : Nat} (h : w.grownBy wr (some g)) (hgb : w.heap.size ≤ gb) (u : Value) (k : Nat) (v : Value) : w.grownBy ((wr.setCell ⟨gb, 0, none⟩ u).setCell ⟨g, k, none⟩ v) (some g) :=
  ⟨h.os, h.tape, h.output, by simpa [World.setCell] using h.size, fun i hi hne => (Below.heap_setCell _ _ _ i (by rintro rfl; exact hne rfl)).trans ((Below.heap_setCell _ _ _ i (by show i ≠ gb; omega)).trans (h.block i hi hne))⟩

/-- What one place does: the carry's box is written, and one limb of the row. -/
theorem place_round {w wr : World} {e t : TypeId} {B g gb n k q m : Nat} {z : Nat → Nat} {v : Value} (h : Blk wr e g n z) (hb : Box wr gb t v) (hl : Below B w wr) (hne : g ≠ gb) (hg : B ≤ g) (hgb : B ≤ gb) :
    Blk ((wr.setCell ⟨gb, 0, none⟩ (.int .u64 (q : Int))).setCell ⟨g, k, none⟩ (.int .u32 (m : Int))) e g n (fun j => if j = k then m else z j) ∧
      Box ((wr.setCell ⟨gb, 0, none⟩ (.int .u64 (q : Int))).setCell ⟨g, k, none⟩ (.int .u32 (m : Int))) gb t (.int .u64 (q : Int)) ∧
      Below B w ((wr.setCell ⟨gb, 0, none⟩ (.int .u64 (q : Int))).setCell ⟨g, k, none⟩ (.int .u32 (m : Int))) :=
  ⟨(h.far (p := ⟨gb, 0, none⟩) hne _).set k m, (hb.set _).far (p := ⟨g, k, none⟩) (Ne.symm hne) _, (hl.setCell (p := ⟨gb, 0, none⟩) hgb _).setCell (p := ⟨g, k, none⟩) hg _⟩

/-- The slice value '.slice A n c' is of the call's own (from block B on), and holds the limbs f. -/
structure Mk (w : World) (e : TypeId) (B : Nat) (A : Option Addr) (n c : Nat) (f : Nat → Nat) : Prop where
  cap : n ≤ c
  max : n ≤ 140737488355328
  lt : ∀ j, f j < 4294967296
  out : ∀ j, n ≤ j → f j = 0
  own : (A = none ∧ n = 0 ∧ c = 0) ∨ ∃ g cs, A = some ⟨g, 0, none⟩ ∧ B ≤ g ∧ w.heap[g]? = some (.cells cs e (0, 0)) ∧ c ≤ cs.size ∧ ∀ j, j < n → cs[j]? = some (.int .u32 (f j : Int))

theorem Mk.nil (w : World) (e : TypeId) (B : Nat) : Mk w e B none 0 0 (fun _ => 0) :=
  ⟨Nat.le_refl _, by omega, fun _ => by show 0 < 4294967296; omega, fun _ _ => rfl, .inl ⟨rfl, rfl, rfl⟩⟩
theorem Mk.rd {w : World} {e : TypeId} {B : Nat} {A : Option Addr} {n c : Nat} {f : Nat → Nat} (h : Mk w e B A n c f) : Rd w w.heap.size A n c f :=
  ⟨h.cap, h.max, h.lt, h.out, fun hn => by
    rcases h.own with ⟨_, h0, _⟩ | ⟨g, cs, hA, _, hh, _, hc⟩
    · omega
    · exact ⟨g, 0, hA, lt_of_heap hh, fun j hj => by rw [Nat.zero_add, cell_of_row w g j cs e (0, 0) hh]; exact hc j hj⟩⟩
theorem Mk.below {w w' : World} {e : TypeId} {B B' : Nat} {A : Option Addr} {n c : Nat} {f : Nat → Nat} (h : Mk w e B A n c f) (hb : Below B' w w') (hB : w.heap.size ≤ B') : Mk w' e B A n c f :=
  ⟨h.cap, h.max, h.lt, h.out, by
    rcases h.own with h0 | ⟨g, cs, hA, hg, hh, hs, hc⟩
    · exact .inl h0
    · have := lt_of_heap hh
      exact .inr ⟨g, cs, hA, hg, (hb.block g (by omega)).trans hh, hs, hc⟩⟩
theorem Mk.mono {w : World} {e : TypeId} {B B' : Nat} {A : Option Addr} {n c : Nat} {f : Nat → Nat} (h : Mk w e B A n c f) (hB : B' ≤ B) : Mk w e B' A n c f :=
  ⟨h.cap, h.max, h.lt, h.out, by
    rcases h.own with h0 | ⟨g, cs, hA, hg, hh, hs, hc⟩
    · exact .inl h0
    · exact .inr ⟨g, cs, hA, by omega, hh, hs, hc⟩⟩
theorem Mk.of_blk {w : World} {e : TypeId} {B g m n c : Nat} {f h : Nat → Nat} (hb : Blk w e g m f) (hg : B ≤ g) (hn : n ≤ c) (hc : c ≤ m) (hm : n ≤ 140737488355328) (hlt : ∀ j, h j < 4294967296) (hout : ∀ j, n ≤ j → h j = 0) (hfh : ∀ j, j < n → f j = h j) :
    Mk w e B (some ⟨g, 0, none⟩) n c h := by
  obtain ⟨cs, hh, hs, hcs⟩ := hb
  exact ⟨hn, hm, hlt, hout, .inr ⟨g, cs, rfl, hg, hh, by omega, fun j hj => by rw [← hfh j hj]; exact hcs j (by omega)⟩⟩

/-- A number's limbs, in new memory. -/
def Num (t : TypeId) (B : Nat) (w' : World) (V : Nat) (v : Value) : Prop := ∃ A k c h, v = .slice A k c ∧ Mk w' t B A k c h ∧ Fit k h ∧ vl h k = V

theorem Num.mono {t : TypeId} {B B' V : Nat} {w : World} {v : Value} (h : Num t B w V v) (hB : B' ≤ B) : Num t B' w V v := by
  obtain ⟨A, k, c, f, hv, hm, hf, hV⟩ := h
  exact ⟨A, k, c, f, hv, hm.mono hB, hf, hV⟩
theorem Num.below {t : TypeId} {B B' V : Nat} {w w' : World} {v : Value} (h : Num t B w V v) (hb : Below B' w w') (hB : w.heap.size ≤ B') : Num t B w' V v := by
  obtain ⟨A, k, c, f, hv, hm, hf, hV⟩ := h
  exact ⟨A, k, c, f, hv, hm.below hb hB, hf, hV⟩

/-- What a call that answers limbs and an error comes to. -/
def Ans (t : TypeId) (w : World) (er : Int) (V : Nat) (e : Ending) (w' : World) : Prop :=
  Below w.heap.size w w' ∧ ∃ v, e = .returned (.tuple #[v, .int .i64 er]) ∧ (er = 0 → Num t w.heap.size w' V v) ∧ (er ≠ 0 → v = .slice none 0 0)

theorem Ans.fail {t : TypeId} {w w' : World} {er : Int} {V : Nat} (h : er ≠ 0) (hb : Below w.heap.size w w') : Ans t w er V (.returned (.tuple #[.slice none 0 0, .int .i64 er])) w' :=
  ⟨hb, _, rfl, fun h0 => absurd h0 h, fun _ => rfl⟩
theorem Ans.good {t : TypeId} {w w' : World} {V : Nat} {v : Value} (hn : Num t w.heap.size w' V v) (hb : Below w.heap.size w w') : Ans t w 0 V (.returned (.tuple #[v, .int .i64 0])) w' :=
  ⟨hb, _, rfl, fun _ => hn, fun h => absurd rfl h⟩

theorem run_make_row1 {P : Program} (t e : TypeId) (i : TypeInfo) (z : Value) (ht : P.underlying t = some (.slice e)) (hi : P.info? e = some i) (hz : i.zero = some z) (hs : i.size = 1)
    (kl kc : IntKind) (n : Nat) (hbytes : i.bytes * n ≤ 281474976710656) (h63 : n ≤ 9223372036854775807) (w : World) :
    (Instr.makeSlice t (.int kl (n : Int)) (.int kc (n : Int))).run P w = .ok (.slice (some ⟨w.heap.size, 0, none⟩) n n) (w.alloc (.cells (madeCells z.cells n) e)) := by
  have hb : (i.bytes : Int) * (n : Int) ≤ 281474976710656 := by
    have h : ((i.bytes * n : Nat) : Int) ≤ 281474976710656 := by omega
    rwa [Int.natCast_mul] at h
  have hr := run_make (P := P) w t e i z ht hi hz kl kc n n (by omega) (by omega) hb (by omega)
  simp only [Int.toNat_natCast, hs, Nat.mul_one] at hr
  exact hr

/-- 'copy', from limbs into a row of the call's own that has room for them. -/
theorem wpList_copy_blk {P : Program} {w : World} {ops : Array Oper} {rest : List Oper} {o : Oper} {a : Act} {Q : Exit → Act → World → Prop} (hgd : o.guard = none) (d s : Operand) (t : TypeId)
    (ho : o.op = .call { callee := .builtin .copy, args := #[d, s], argTypes := #[t, t] }) (e : TypeId) (hu : P.underlying t = some (.slice e)) (hsz : (P.info? e).map (·.size) = some 1)
    {g n c' N k c B : Nat} {A : Option Addr} {z f : Nat → Nat} (hd : a.eval d = .slice (some ⟨g, 0, none⟩) n c') (hs : a.eval s = .slice A k c) (hb : Blk w e g N z) (hm : Mk w e B A k c f) (hk : k ≤ n) (hN : n ≤ N)
    (h : ∀ w', Hid (Blk w' e g N (fun j => if j < k then f j else z j)) → Hid (Below g w w') → wpList P ops Q rest (a.put o.dst (goInt k)) w') :
    wpList P ops Q (o :: rest) a w := by
  obtain ⟨cur, hg, hcs, hcc⟩ := hb
  have hl : ((List.range k).map (fun j => Value.int .u32 (f j : Int))).length = k := by simp
  refine wpList_copy_splice hgd d s t t ho e hu hsz (some ⟨g, 0, none⟩) A n c' k c hd hs g 0 cur.toList e (by simpa using hg) ((List.range k).map (fun j => Value.int .u32 (f j : Int))) (by rw [hl]; exact (Nat.min_eq_left hk).symm) ?_ (by simp [hcs]; omega) ?_ g w (Below.refl _ _) (Nat.le_refl _) ?_
  · intro h0
    rw [hl] at h0
    refine ⟨rfl, ?_⟩
    rcases hm.own with ⟨_, h1, _⟩ | ⟨g2, cs2, rfl, _, hh, _, hc2⟩
    · omega
    · refine ⟨_, rfl, fun j v hv => ?_⟩
      have hj : j < k := by
        rcases Nat.lt_or_ge j k with h | h
        · exact h
        · rw [List.getElem?_eq_none (by rw [hl]; exact h)] at hv; cases hv
      rw [List.getElem?_map, List.getElem?_range hj] at hv
      simp at hv
      subst hv
      have : (⟨g2, 0, none⟩ : Addr).add j = ⟨g2, j, none⟩ := by unfold Addr.add; split <;> simp_all
      rw [this, cell_of_row w g2 j cs2 e (0, 0) hh]
      exact hc2 j hj
  · intro v hv
    simp at hv
    obtain ⟨j, _, rfl⟩ := hv
    rfl
  · intro w' hrow hbel
    have hrow := hrow.out
    rw [hl]
    refine h w' (show Blk _ _ _ _ _ from ⟨_, hrow, by simp [splice, hcs]; omega, fun j hj => ?_⟩) hbel
    simp only [splice, List.take_zero, List.nil_append, Nat.zero_add, List.getElem?_toArray, hl]
    by_cases hjk : j < k
    · rw [List.getElem?_append_left (by rw [hl]; exact hjk), List.getElem?_map, List.getElem?_range hjk, if_pos hjk]
      rfl
    · rw [List.getElem?_append_right (by rw [hl]; omega), hl, List.getElem?_drop, if_neg hjk, show k + (j - k) = j by omega, Array.getElem?_toList]
      exact hcc j hj

end Go.Proofs.Ytdcolnipdipkhaa
