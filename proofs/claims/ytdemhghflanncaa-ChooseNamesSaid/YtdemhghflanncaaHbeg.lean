/- ChooseBegins, walked over the program's One and Some. -/
import Derived.Test.YtdemhghflanncaaHrnd
import Derived.Deep.RegionHeld3
namespace Go.Proofs.Ytdemhghflanncaa
open Go.RowKit Go.Shelf Go.Lib

theorem bh_alloc {W X : World} {o : Obj} (h : Below W.heap.size W X) : Below W.heap.size W (X.alloc o) := h.alloc h.size o
theorem bh_drew {W X : World} (h : Below W.heap.size W X) : Below W.heap.size W X.drew := h.drew
theorem bh_then {W X Y : World} (h : Below W.heap.size W X) (k : Below X.heap.size X Y) : Below W.heap.size W Y := h.trans (k.mono h.size)
theorem bh_set {W X : World} {q : Addr} {v : Value} (h : Below W.heap.size W X) (hp : W.heap.size ≤ q.block) : Below W.heap.size W (X.setCell q v) := h.setCell hp v
theorem box3 {w : World} {g : Nat} {o p : Int} {v : Value} (h : Cbox w g o p v) : w.cell? ⟨g, 0, none⟩ = some (.int .i64 o) ∧ w.cell? ⟨g, 1, none⟩ = some (.int .i64 p) ∧ w.cell? ⟨g, 2, none⟩ = some v := ⟨h.c0, h.c1, h.c2⟩
theorem ds_on {X Y : World} {A : Option Addr} {n c : Nat} {l : List De} (h : Ds X X.heap.size A n c l) (b : Below X.heap.size X Y) : Ds Y Y.heap.size A n c l := (h.below b).mono b.size
theorem dbx_new (w : World) : Dbx (w.alloc (.cells #[.int .i64 0, .int .i64 0] 23)) w.heap.size (0, 0) := heap_alloc_new w _
theorem dbx_s1 {W w' : World} (hb : Below ((W.alloc (.cells #[.int .i64 0, .int .i64 0] 23)).drew).heap.size (W.alloc (.cells #[.int .i64 0, .int .i64 0] 23)).drew w') : Dbx w' W.heap.size (0, 0) := Dbx.below (w := (W.alloc (.cells #[.int .i64 0, .int .i64 0] 23)).drew) (dbx_new W) hb (by simp [World.drew])
theorem sm_cases (o p : Int) (l : List De) (r : List Nat) (hr : r.length ≤ 64) : (smE o p l r = 0 ∧ smL o p l r = chs l r ∧ CMay o p l) ∨ (smE o p l r = 8 ∧ smL o p l r = [] ∧ ¬ CMay o p l) := by
  by_cases hq : CMay o p l
  · have hE : smE o p l r = 0 := by unfold smE; rw [if_pos hq, if_neg (by omega)]
    exact .inl ⟨hE, if_pos hE, hq⟩
  · have hE : smE o p l r = 8 := if_neg hq
    exact .inr ⟨hE, by unfold smL; rw [hE]; rfl, hq⟩

set_option maxHeartbeats 6400000 in
set_option maxRecDepth 100000 in
theorem hbegins_walk (CA : HAliveOk) (D1 : OneOk) (DS : SomeOk) {w : World} {nc cc nd cd : Nat} {Ac Ad : Option Addr} {k : List De} {r : List Nat} (o p z : Int) (hc : Ds w w.heap.size Ac nc cc k) (hd : Us w w.heap.size Ad nd cd r) :
    Calls Try.prog 7 #[cav o p (.slice Ac nc cc), .slice Ad nd cd, .int .i64 z] w fun e w' => e = .returned (.bool true) ∧ Below w.heap.size w w' := by
  have mixed : Try.prog.follows .mixedOrders = true := by kernel_rfl
  have HL := hid hc.len
  have HR := hid hd.len
  have hcap := hc.cap
  have hcap2 := hd.cap
  obtain ⟨W0, hW⟩ : ∃ W, W = w.alloc (.cells #[.int .i64 o, .int .i64 p, .slice Ac nc cc] 29) := ⟨_, rfl⟩
  have B0 := hid (show Below w.heap.size w W0 from hW ▸ (Below.refl _ w).alloc (Nat.le_refl _) _)
  have X0 := hid (show Cbox W0 w.heap.size o p (.slice Ac nc cc) from hW ▸ heap_alloc_new w _)
  have D0 := hid ((hc.below B0.out).mono B0.out.size)
  have U0 := hid ((hd.below B0.out).mono B0.out.size)
  have HW := hid hW
  clear hW hc hd
  unfold cav
  go_enter Try.func7, Try.ntmps7
  go_upto_region 1 with fail
  rw [← HW.out]
  clear HW
  go_wp2_with fail
  refine (CA W0).mono ?_
  rintro e w1 ⟨rfl, hb⟩
  have X1 := hid (X0.out.below hb.out X0.out.lt)
  have E1 := hid ((D0.out.below hb.out).mono hb.out.size)
  have U1 := hid ((U0.out.below hb.out).mono hb.out.size)
  have B1 := hid (B0.out.trans (hb.out.mono B0.out.size))
  clear X0 D0 U0 B0 hb
  by_cases h64 : 64 < nd
  · have hz1 : (nd : Int) > 64 := by omega
    go_wp2
    go_ret
    exact ⟨rfl, B1.out⟩
  have hz1 : ¬ (nd : Int) > 64 := by omega
  by_cases hneg : z < 0
  · go_wp2
    go_ret
    exact ⟨rfl, B1.out⟩
  by_cases hbig : z > (nd : Int)
  · go_wp2
    go_ret
    exact ⟨rfl, B1.out⟩
  obtain ⟨q, rfl⟩ : ∃ q : Nat, z = (q : Int) := ⟨z.toNat, by omega⟩
  have hqn : q ≤ nd := by omega
  have U1q := hid (U1.out.first hqn)
  have hd1 : decide ((64 : Int) < (nd : Int)) = false := decide_eq_false (by omega)
  have hd2 : decide ((q : Int) < 0) = false := decide_eq_false (by omega)
  have hd3 : decide ((nd : Int) < (q : Int)) = false := decide_eq_false (by omega)
  have hqc : (q : Int) ≤ (cd : Int) := by omega
  have CS := hid (DS w1 o p _ nc cc _ nd cd Ac Ad k r E1.out U1.out (Nat.le_refl _) (Nat.le_refl _))
  have CQ := hid (fun X (hb : Below w1.heap.size w1 X) => DS X o p _ nc cc _ q cd Ac Ad k (r.take q) (E1.out.below hb) (U1q.out.below hb) hb.size hb.size)
  have hr64 : r.length ≤ 64 := by rw [HR.out]; omega
  have hr64q : (r.take q).length ≤ 64 := by rw [List.length_take]; omega
  rcases sm_cases o p k r hr64 with ⟨e1, e2, hq⟩ | ⟨e1, e2, hq⟩
  case inr =>
    rcases sm_cases o p k (r.take q) hr64q with ⟨e3, e4, hq2⟩ | ⟨e3, e4, _⟩
    · exact absurd hq2 hq
    rw [e1, e2] at CS
    rw [e3, e4] at CQ
    unfold cav at CS CQ
    clear e1 e2 e3 e4 hq hr64 hr64q
    have x0 := X1.out.c0
    have x1 := X1.out.c1
    have x2 := X1.out.c2
    go_wp2_with fail
    refine CS.out.mono ?_
    rintro e w2 ⟨A2, n2, c2, rfl, h2⟩
    have X2 := hid (X1.out.below h2.out.2 X1.out.lt)
    have HBy := hid h2.out.2
    have CG : Hid (∀ X, Below w1.heap.size w1 X → X.cell? ⟨w.heap.size, 0, none⟩ = some (.int .i64 o) ∧ X.cell? ⟨w.heap.size, 1, none⟩ = some (.int .i64 p) ∧ X.cell? ⟨w.heap.size, 2, none⟩ = some (.slice Ac nc cc)) := hid fun X hb => box3 (X1.out.below hb X1.out.lt)
    clear x0 x1 x2 CS h2
    go_upto_region 5 with fail
    go_region_held3 (fun X => X.cell? ⟨w.heap.size, 0, none⟩ = some (.int .i64 o) ∧ X.cell? ⟨w.heap.size, 1, none⟩ = some (.int .i64 p) ∧ X.cell? ⟨w.heap.size, 2, none⟩ = some (.slice Ac nc cc))
      (exact CG.out _ (by (repeat (first | with_reducible exact HBy.out | with_reducible apply bh_drew | with_reducible apply bh_alloc))))
      (first
      | (go_at_call 9
         with_reducible refine (CQ.out _ (by (repeat (first | with_reducible exact HBy.out | with_reducible apply bh_drew | with_reducible apply bh_alloc)))).mono ?_
         rintro e' w3 ⟨A3, n3, c3, rfl, h3⟩
         have HBy := hid (bh_then (by (repeat (first | with_reducible exact HBy.out | with_reducible apply bh_drew | with_reducible apply bh_alloc))) h3.out.2)))
    all_goals
      obtain rfl : n3 = 0 := h3.out.1.len.symm
      go_wp2
      go_ret
      exact ⟨rfl, B1.out.trans (HBy.out.mono B1.out.size)⟩
  case inl =>
    rcases sm_cases o p k (r.take q) hr64q with ⟨e3, e4, _⟩ | ⟨e3, e4, hq2⟩
    case inr => exact absurd hq hq2
    rw [chs_take] at e4
    obtain ⟨L, hL⟩ : ∃ L, L = chs k r := ⟨_, rfl⟩
    rw [← hL] at e2 e4
    have HLL := hid hL
    have HLn := hid (show L.length = min r.length k.length from by rw [hL]; exact chs_length r k)
    have HE := hid (show 0 < nc → onE o p k = 0 from fun h => by unfold onE; rw [if_pos hq, if_neg (by rw [HL.out]; omega)])
    rw [e1, e2] at CS
    rw [e3, e4] at CQ
    unfold cav at CS CQ
    clear e1 e2 e3 e4 hq hr64 hr64q hL
    have x0 := X1.out.c0
    have x1 := X1.out.c1
    have x2 := X1.out.c2
    go_wp2_with fail
    refine CS.out.mono ?_
    rintro e w2 ⟨A2, n2, c2, rfl, h2⟩
    have HBy := hid h2.out.2
    have D2 := hid h2.out.1
    have CG : Hid (∀ X, Below w1.heap.size w1 X → X.cell? ⟨w.heap.size, 0, none⟩ = some (.int .i64 o) ∧ X.cell? ⟨w.heap.size, 1, none⟩ = some (.int .i64 p) ∧ X.cell? ⟨w.heap.size, 2, none⟩ = some (.slice Ac nc cc)) := hid fun X hb => box3 (X1.out.below hb X1.out.lt)
    clear x0 x1 x2 CS h2
    go_upto_region 5 with fail
    go_cut [10, 11] from 39 to 46 (fun s10 s11 wx => ∃ (A3 : Option Addr) (n3 c3 : Nat), s10 = .slice A3 n3 c3 ∧ s11 = .int .i64 0 ∧ Hid (Ds wx wx.heap.size A3 n3 c3 (L.take q) ∧ Ds wx wx.heap.size A2 n2 c2 L ∧ Below w1.heap.size w1 wx))
    case first =>
      go_region_held3 (fun X => X.cell? ⟨w.heap.size, 0, none⟩ = some (.int .i64 o) ∧ X.cell? ⟨w.heap.size, 1, none⟩ = some (.int .i64 p) ∧ X.cell? ⟨w.heap.size, 2, none⟩ = some (.slice Ac nc cc))
        (exact CG.out _ (by (repeat (first | with_reducible exact HBy.out | with_reducible apply bh_drew | with_reducible apply bh_alloc))))
        (first
        | (go_at_call 9
           with_reducible refine (CQ.out _ (by (repeat (first | with_reducible exact HBy.out | with_reducible apply bh_drew | with_reducible apply bh_alloc)))).mono ?_
           rintro e' w3 ⟨A3, n3, c3, rfl, h3⟩
           have D2' := hid (ds_on D2.out (bh_then (bh_drew (Below.refl _ w2)) h3.out.2))
           have HBy := hid (bh_then (by (repeat (first | with_reducible exact HBy.out | with_reducible apply bh_drew | with_reducible apply bh_alloc))) h3.out.2)))
      all_goals
        go_wp2
        go_meet
        exact ⟨A3, n3, c3, rfl, rfl, hid ⟨h3.out.1, D2'.out, HBy.out⟩⟩
    case rest =>
      obtain ⟨A3, n3, c3, rfl, rfl, HZ⟩ := hcut
      have D3 := hid HZ.out.1
      have D2 := hid HZ.out.2.1
      have HBy := hid HZ.out.2.2
      have hl2 := D2.out.len
      have hl3 := D3.out.len
      have hc2 := D2.out.cap
      have hn32 : n3 ≤ n2 := by rw [← hl2, ← hl3, List.length_take]; omega
      have hgt : ¬ (n3 : Int) > (n2 : Int) := by omega
      have hgtb : decide ((n2 : Int) < (n3 : Int)) = false := decide_eq_false (by omega)
      have hcc : (n3 : Int) ≤ (c2 : Int) := by omega
      have HTk := hid (show L.take n3 = L.take q from by
        rw [← hl3, List.length_take]
        rcases Nat.le_total q L.length with h | h
        · rw [Nat.min_eq_left h]
        · rw [Nat.min_eq_right h, List.take_of_length_le (Nat.le_refl _), List.take_of_length_le h])
      have CE := hid (dsame_any (D2.out.first hn32) D3.out (Nat.le_refl _) (Nat.le_refl _))
      rw [HTk.out, decide_eq_true rfl] at CE
      have HN2 := hid hl2
      clear HZ hl2 hl3
      go_wp2_with fail
      refine CE.out.mono ?_
      rintro e w4 ⟨rfl, h4⟩
      have D4 := hid ((D2.out.below h4.out).mono h4.out.size)
      have B4 := hid (bh_then HBy.out h4.out)
      clear CE HBy h4 D3 D2
      by_cases hn0 : n2 = 0
      · have hnz : (n2 : Int) = 0 := by omega
        go_wp2
        go_ret
        exact ⟨rfl, B1.out.trans (B4.out.mono B1.out.size)⟩
      have hnz : ¬ (n2 : Int) = 0 := by omega
      have hnzb : ((n2 : Int) == 0) = false := beq_eq_false_iff_ne.2 hnz
      have hnzd : decide ((n2 : Int) = 0) = false := decide_eq_false hnz
      have hk0 : 0 < nc := by have := HLn.out; have := HN2.out; have := HL.out; omega
      have hr0 : 0 < nd := by have := HLn.out; have := HN2.out; have := HR.out; omega
      obtain ⟨x, hx⟩ := U1.out.get hr0
      have hxf := U1.out.fit x (List.mem_of_getElem? hx)
      obtain ⟨y, hy⟩ := pick (l := k) x (by rw [HL.out]; exact hk0)
      have hL0 : L[0]? = some y := by
        have h1 : r = x :: r.drop 1 := by
          obtain ⟨h2, rfl⟩ := List.getElem?_eq_some_iff.1 hx
          have := List.drop_eq_getElem_cons h2
          simpa using this
        rw [HLL.out, h1, chs_cons hy]
        rfl
      have hF : onD o p k x = y := by unfold onD; rw [HE.out hk0, if_pos rfl, hy]; rfl
      have CO := hid (fun X (hb : Below w4.heap.size w4 X) => D1 X o p _ nc cc Ac k x (E1.out.below (B4.out.trans (hb.mono B4.out.size))) (Nat.le_trans B4.out.size hb.size) hxf)
      rw [HE.out hk0, hF] at CO
      obtain ⟨db, doff, rfl, hdb, hdc⟩ := (U1.out.below B4.out).at_ hr0
      have c0 := hdc 0 x hx
      rw [Nat.add_zero] at c0
      obtain ⟨b, off, rfl, hbB, hc⟩ := D4.out.at_ (by omega)
      obtain ⟨l0, l1⟩ := hc 0 y hL0
      obtain ⟨y1, y2⟩ := y
      rw [Nat.zero_mul, Nat.add_zero] at l0 l1
      change w4.cell? ⟨b, off, none⟩ = some (.int .i64 y1) at l0
      change w4.cell? ⟨b, off + 1, none⟩ = some (.int .i64 y2) at l1
      have LL := hid (And.intro l0 l1)
      have CH : Hid (∀ X, Below w4.heap.size w4 X → (X.cell? ⟨w.heap.size, 0, none⟩ = some (.int .i64 o) ∧ X.cell? ⟨w.heap.size, 1, none⟩ = some (.int .i64 p) ∧ X.cell? ⟨w.heap.size, 2, none⟩ = some (.slice Ac nc cc)) ∧ X.cell? ⟨db, doff, none⟩ = some (.int .u64 (x : Int))) := hid fun X hb => ⟨box3 (X1.out.below (B4.out.trans (hb.mono B4.out.size)) X1.out.lt), (hb.cell (p := ⟨db, doff, none⟩) (Nat.lt_of_lt_of_le hdb B4.out.size)).trans c0⟩
      unfold cav dv at CO
      clear hdc hc hx hy hL0 hF c0 l0 l1 hdb
      go_upto_region 12 with fail
      have HBy := hid (Below.refl w4.heap.size w4)
      have HBs := hid (Nat.le_refl w4.heap.size)
      go_cut [12, 13] from 82 to 89 (fun s12 s13 wx => ∃ g : Nat, s12 = .pointer (some ⟨g, 0, none⟩) ∧ s13 = .int .i64 0 ∧ Hid (Dbx wx g (y1, y2) ∧ Below w4.heap.size w4 wx))
      case first =>
        go_region_held3 (fun X => (X.cell? ⟨w.heap.size, 0, none⟩ = some (.int .i64 o) ∧ X.cell? ⟨w.heap.size, 1, none⟩ = some (.int .i64 p) ∧ X.cell? ⟨w.heap.size, 2, none⟩ = some (.slice Ac nc cc)) ∧ X.cell? ⟨db, doff, none⟩ = some (.int .u64 (x : Int)))
          (exact CH.out _ (by (repeat (first | with_reducible exact HBy.out | with_reducible apply bh_drew | with_reducible apply bh_alloc | with_reducible refine bh_set ?_ (by first | exact Nat.le_refl _ | exact HBs.out | exact HBy.out.size)))))
          (first
          | (go_at_call 8
             with_reducible refine (CO.out _ (by (repeat (first | with_reducible exact HBy.out | with_reducible apply bh_drew | with_reducible apply bh_alloc)))).mono ?_
             rintro e' w5 ⟨rfl, h5⟩
             try (have za := hid (dbx_s1 h5.out); have z0 := za.out.c0; have z1 := za.out.c1; have f0 := za.out.frozen 0; have f1 := za.out.frozen 1)
             have HBy := hid (bh_then (by (repeat (first | with_reducible exact HBy.out | with_reducible apply bh_drew | with_reducible apply bh_alloc))) h5.out)))
        all_goals go_wp2
        all_goals go_meet
        all_goals first
          | exact ⟨_, rfl, rfl, hid ⟨za.out.store y1 y2, (by (repeat (first | with_reducible exact HBy.out | with_reducible apply bh_drew | with_reducible apply bh_alloc | with_reducible refine bh_set ?_ (by first | exact Nat.le_refl _ | exact HBs.out | exact HBy.out.size))))⟩⟩
          | exact ⟨_, rfl, rfl, hid ⟨heap_alloc_new w5 _, (by (repeat (first | with_reducible exact HBy.out | with_reducible apply bh_drew | with_reducible apply bh_alloc | with_reducible refine bh_set ?_ (by first | exact Nat.le_refl _ | exact HBs.out | exact HBy.out.size))))⟩⟩
      case rest =>
        obtain ⟨g, rfl, rfl, HG⟩ := hcut
        have g0 := HG.out.1.c0
        have g1 := HG.out.1.c1
        change wc.cell? ⟨g, 0, none⟩ = some (.int .i64 y1) at g0
        change wc.cell? ⟨g, 1, none⟩ = some (.int .i64 y2) at g1
        have l0 := (HG.out.2.cell (p := ⟨b, off, none⟩) hbB).trans LL.out.1
        have l1 := (HG.out.2.cell (p := ⟨b, off + 1, none⟩) hbB).trans LL.out.2
        have hq2 : ∀ W, Sem.run Try.prog (binOp .eql 23 (.agg #[.int .i64 y1, .int .i64 y2]) (.agg #[.int .i64 y1, .int .i64 y2])) W = .ok (.bool true) W := fun W => by rw [eqlD, decide_eq_true rfl]
        have hgd := grdD
        have hn2 : (0 : Int) < (n2 : Int) := by omega
        have BF := hid (B1.out.trans ((B4.out.trans (HG.out.2.mono B4.out.size)).mono B1.out.size))
        go_wp2_with fail
        go_big_quiet_o (fail)
        go_wp2
        go_ret
        exact ⟨rfl, below_drewN BF.out _⟩
end Go.Proofs.Ytdemhghflanncaa
