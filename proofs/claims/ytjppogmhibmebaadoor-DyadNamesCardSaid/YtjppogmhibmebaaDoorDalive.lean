/- The law's own helpers of package dyad: part, alive. -/
import Derived.Test.YtjppogmhibmebaaDoorDadd
import Derived.Test.YtjppogmhibmebaaDoorDhalf
import Derived.Test.YtjppogmhibmebaaDoorDsame
namespace Go.Proofs.YtjppogmhibmebaaDoor
open Go.RowKit

/-- A dyad that is handed back, and an error that is OK. -/
def Good (w : World) (N : Int) (e : Ending) (w' : World) : Prop := ∃ s A n c x, e = .returned (.tuple #[.agg #[.bool s, .slice A n c, .int .i64 x], .int .i64 0]) ∧ Hid (DArg w' True N (.agg #[.bool s, .slice A n c, .int .i64 x])) ∧ Hid (Below w.heap.size w w')
/-- A dyad that is handed back. -/
def One (w : World) (N : Int) (e : Ending) (w' : World) : Prop := ∃ s A n c x, e = .returned (.agg #[.bool s, .slice A n c, .int .i64 x]) ∧ Hid (DArg w' True N (.agg #[.bool s, .slice A n c, .int .i64 x])) ∧ Hid (Below w.heap.size w w')

theorem Dn.parts {B : Nat} {w : World} {M : Int} {d : Value} (h : Dn B w M d) : ∃ s A n c x, d = .agg #[.bool s, .slice A n c, .int .i64 x] := by
  obtain ⟨s, u, X, V, rfl, hn, _⟩ := h
  obtain ⟨A, n, c, rfl⟩ := hn.shape
  exact ⟨s, A, n, c, _, rfl⟩
theorem DRes.good {w w' : World} {p : Prop} {M : Int} {e : Ending} (h : DRes w (Derrs p M) M e w') (hp : p) (hM : Okay M) : Good w M e w' := by
  obtain ⟨d, er, rfl, HE, HD, HB⟩ := h
  obtain rfl : er = 0 := (HE.out.1 hp).uniq (.inl ⟨hM, rfl⟩)
  have hd := HD.out
  rw [resD_ok rfl] at hd
  obtain ⟨s, A, n, c, x, rfl⟩ := hd.parts
  exact ⟨s, A, n, c, x, rfl, hd.arg, HB⟩
theorem half_good {w : World} {p : Prop} {M N : Int} {v : Value} (h1 : DArg w p M v) (hp : p) (hT : Tab w) (hN : 2 * N = M) (ho : Okay N) : Calls Tryd.prog 11 #[v] w (Good w N) := by
  refine (dhalf_any h1 hT).mono ?_
  rintro e w' ⟨H, hH, hr⟩
  obtain rfl : H = N := by have := hH hp; omega
  exact hr.good hp ho
theorem add_good {w : World} {p q : Prop} {M N R : Int} {v u : Value} (h1 : DArg w p M v) (h2 : DArg w q N u) (hp : p) (hq : q) (hT : Tab w) (hR : M + N = R) (ho : Okay R) : Calls Tryd.prog 12 #[v, u] w (Good w R) := by
  subst hR
  exact (dadd_any h1 h2 hT).mono fun e w' h => h.good ⟨hp, hq⟩ ho
theorem sub_good {w : World} {p q : Prop} {M N R : Int} {v u : Value} (h1 : DArg w p M v) (h2 : DArg w q N u) (hp : p) (hq : q) (hT : Tab w) (hR : M - N = R) (ho : Okay R) : Calls Tryd.prog 14 #[v, u] w (Good w R) := by
  subst hR
  exact (dsub_any h1 h2 hT).mono fun e w' h => h.good ⟨hp, hq⟩ ho
theorem of_one (n : Nat) (hn : n ≤ 9223372036854775807) (w : World) : Calls Tryd.prog 13 #[.int .i64 (n : Int)] w (One w (dv false n 0)) := by
  refine (dof_dn (n : Int) (by omega) w).mono ?_
  rintro e w' ⟨d, rfl, HD, HB⟩
  obtain ⟨s, A, m, c, x, rfl⟩ := HD.out.parts
  refine ⟨s, A, m, c, x, rfl, ?_, HB⟩
  have h := HD.out.arg
  rwa [show (n : Int) * (tp 4000 : Int) = dv false n 0 by simp [dv, num]] at h
theorem same_true {w : World} {p q : Prop} {M N : Int} {v u : Value} (h1 : DArg w p M v) (h2 : DArg w q N u) (hp : p) (hq : q) (he : M = N) :
    Calls Tryd.prog 18 #[v, u] w fun e w' => e = .returned (.bool true) ∧ Hid (Below w.heap.size w w') := by
  have h := dsame_any h1 h2 hp hq
  rwa [bool_of_dec he] at h

theorem canon_small {s : Bool} {n x : Nat} (h0 : 0 < n) (hx : 0 < x → n % 2 = 1) : Canon s n x := ⟨fun h => by omega, hx⟩
theorem okay_small {s : Bool} {n x : Nat} (h0 : 0 < n) (hn : n < 4294967296) (hx : 0 < x → n % 2 = 1) (h1 : x ≤ 1024) : Okay (dv s n x) :=
  ⟨s, n, x, canon_small h0 hx, Nat.lt_of_lt_of_le hn (pw_mono (j := 1) (k := 40) (by omega)), h1, rfl⟩

set_option maxHeartbeats 800000 in
theorem part_any (s : Bool) (n x : Nat) (h0 : 0 < n) (hn : n < 4294967296) (hx : 0 < x → n % 2 = 1) (h1 : x ≤ 1024) (w : World) :
    Calls Tryd.prog 10 #[.bool s, .int .u32 (n : Int), .int .i64 (x : Int)] w (One w (dv s n x)) := by
  have H0 := hid h0
  have Hn := hid hn
  have Hx := hid hx
  have H1 := hid h1
  clear h0 hn hx h1
  go_enter Tryd.func10, Tryd.ntmps10
  go_wp2
  have hbox : Dbox ((w.alloc (.cells #[.bool s, .slice (some ⟨w.heap.size + 1, 0, none⟩) 1 1, .int .i64 (x : Int)] 24)).alloc (.cells #[.int .u32 (n : Int)] 26)) w.heap.size s (.slice (some ⟨w.heap.size + 1, 0, none⟩) 1 1) (x : Int) := (Below.heap_alloc _ _ _ (by simp)).trans (heap_alloc_new w _)
  have hrow := heap_alloc2_new w (.cells #[.bool s, .slice (some ⟨w.heap.size + 1, 0, none⟩) 1 1, .int .i64 (x : Int)] 24) (.cells #[.int .u32 (n : Int)] 26)
  refine ret_one rfl rfl rfl hbox ?_
  refine ⟨s, _, 1, 1, _, rfl, ⟨s, _, 1, 1, (fun j => if j = 0 then n else 0), _, rfl, ⟨Nat.le_refl _, by omega, fun j => ?_, fun j hj => if_neg (by omega), fun _ => ⟨w.heap.size + 1, 0, rfl, by simp, fun j hj => ?_⟩⟩, ⟨fun _ => ?_, fun _ => trivial⟩, fun _ => ⟨x, rfl, ?_⟩⟩, ((Below.refl w.heap.size w).alloc (Nat.le_refl _) _).alloc (by simp) _⟩
  · show (if j = 0 then n else 0) < _
    have := Hn.out
    split <;> omega
  · obtain rfl : j = 0 := by omega
    rw [cell_of_row _ _ _ _ _ (0, 0) hrow]
    rfl
  · refine canon_may (f := fun j => if j = 0 then n else 0) ⟨by omega, fun _ => ?_⟩ ?_ H1.out
    · show (if 1 - 1 = 0 then n else 0) ≠ 0
      have := H0.out
      simp
      omega
    · rw [show vl (fun j => if j = 0 then n else 0) 1 = n by simp [vl, pw]]
      exact canon_small H0.out Hx.out
  · rw [show vl (fun j => if j = 0 then n else 0) 1 = n by simp [vl, pw]]

theorem e0 : tp (4000 - 0) = tp 3998 * 4 := by
  show tp (3998 + 1 + 1) = _
  rw [tp_succ, tp_succ, Nat.mul_assoc]
theorem e1 : tp (4000 - 1) = tp 3998 * 2 := by
  show tp (3998 + 1) = _
  rw [tp_succ]
theorem e2 : tp (4000 - 2) = tp 3998 := rfl
theorem half3 : 2 * dv false 3 1 = dv false 3 0 := by
  unfold dv num
  rw [e0, e1]
  generalize tp 3998 = T
  simp <;> omega
theorem half2 : 2 * dv false 1 0 = dv false 2 0 := by
  unfold dv num
  rw [e0]
  generalize tp 3998 = T
  simp <;> omega
theorem add11 : dv false 1 1 + dv false 1 1 = dv false 1 0 := by
  unfold dv num
  rw [e0, e1]
  generalize tp 3998 = T
  simp <;> omega
theorem sub13 : dv false 1 1 - dv false 3 2 = dv true 1 2 := by
  unfold dv num
  rw [e1, e2]
  generalize tp 3998 = T
  simp <;> omega


set_option maxHeartbeats 6400000 in
theorem dalive_any (w : World) (hT : Tab w) :
    Calls Tryd.prog 17 #[] w fun e w' => e = .returned (.bool true) ∧ Hid (Below w.heap.size w w') := by
  have HT := hid hT
  clear hT
  have K := hid (Below.refl w.heap.size w)
  go_enter Tryd.func17, Tryd.ntmps17
  go_wp2_with fail
  refine (of_one 3 (by omega) _).mono ?_
  rintro e w1 ⟨s1, A1, n1, c1, x1, rfl, D1, B1⟩
  have K1 := hid (K.out.trans (B1.out.mono K.out.size))
  go_wp2_with fail
  refine (half_good D1.out trivial (HT.out.below K1.out HT.out.lt) half3 (okay_small (by omega) (by omega) (fun _ => rfl) (by omega))).mono ?_
  rintro e w2 ⟨sa, Aa, na, ca, xa, rfl, DA, B2⟩
  have K2 := hid (K1.out.trans (B2.out.mono K1.out.size))
  have PA : Hid (Dbox (w2.alloc (.cells #[.bool sa, .slice Aa na ca, .int .i64 xa] 24)) w2.heap.size sa (.slice Aa na ca) xa) := heap_alloc_new _ _
  have B2a := hid ((Below.refl w2.heap.size w2).alloc (Nat.le_refl _) (.cells #[.bool sa, .slice Aa na ca, .int .i64 xa] 24))
  have DA := hid (DA.out.below B2a.out)
  have K2 := hid (K2.out.trans (B2a.out.mono K2.out.size))
  clear D1 B1 K1 B2 B2a
  go_wp2_with fail
  refine (of_one 2 (by omega) _).mono ?_
  rintro e w3 ⟨s1, A1, n1, c1, x1, rfl, D1, B3⟩
  have K3 := hid (K2.out.trans (B3.out.mono K2.out.size))
  go_wp2_with fail
  refine (half_good D1.out trivial (HT.out.below K3.out HT.out.lt) half2 (okay_small (by omega) (by omega) (fun h => absurd h (by omega)) (by omega))).mono ?_
  rintro e w4 ⟨sb, Ab, nb, cb, xb, rfl, DB, B4⟩
  have PB : Hid (Dbox (w4.alloc (.cells #[.bool sb, .slice Ab nb cb, .int .i64 xb] 24)) w4.heap.size sb (.slice Ab nb cb) xb) := heap_alloc_new _ _
  have B4a := hid ((Below.refl w4.heap.size w4).alloc (Nat.le_refl _) (.cells #[.bool sb, .slice Ab nb cb, .int .i64 xb] 24))
  have J4 := hid ((B3.out.trans (B4.out.mono B3.out.size)).trans (B4a.out.mono (Nat.le_trans B3.out.size B4.out.size)))
  have DB := hid (DB.out.below B4a.out)
  have DA := hid (DA.out.below J4.out)
  have PA := hid (PA.out.below J4.out PA.out.lt)
  have K4 := hid (K2.out.trans (J4.out.mono K2.out.size))
  clear D1 B3 K3 B4 B4a K2 J4
  go_wp2_with fail
  refine (part_any false 1 1 (by omega) (by omega) (fun _ => rfl) (by omega) _).mono ?_
  rintro e w5 ⟨s1, A1, n1, c1, x1, rfl, D1, B5⟩
  go_wp2_with fail
  refine (part_any false 1 1 (by omega) (by omega) (fun _ => rfl) (by omega) _).mono ?_
  rintro e w6 ⟨s2, A2, n2, c2, x2, rfl, D2, B6⟩
  have D1 := hid (D1.out.below B6.out)
  have J6 := hid (B5.out.trans (B6.out.mono B5.out.size))
  have K6 := hid (K4.out.trans (J6.out.mono K4.out.size))
  go_wp2_with fail
  refine (add_good D1.out D2.out trivial trivial (HT.out.below K6.out HT.out.lt) add11 (okay_small (by omega) (by omega) (fun h => absurd h (by omega)) (by omega))).mono ?_
  rintro e w7 ⟨sc, Ac, nc, cc, xc, rfl, DC, B7⟩
  have PC : Hid (Dbox (w7.alloc (.cells #[.bool sc, .slice Ac nc cc, .int .i64 xc] 24)) w7.heap.size sc (.slice Ac nc cc) xc) := heap_alloc_new _ _
  have B7a := hid ((Below.refl w7.heap.size w7).alloc (Nat.le_refl _) (.cells #[.bool sc, .slice Ac nc cc, .int .i64 xc] 24))
  have J7 := hid ((J6.out.trans (B7.out.mono J6.out.size)).trans (B7a.out.mono (Nat.le_trans J6.out.size B7.out.size)))
  have DC := hid (DC.out.below B7a.out)
  have DA := hid (DA.out.below J7.out)
  have PA := hid (PA.out.below J7.out PA.out.lt)
  have DB := hid (DB.out.below J7.out)
  have PB := hid (PB.out.below J7.out PB.out.lt)
  have K7 := hid (K4.out.trans (J7.out.mono K4.out.size))
  clear D1 D2 B5 B6 K4 K6 B7 B7a J6 J7
  go_wp2_with fail
  refine (part_any false 1 1 (by omega) (by omega) (fun _ => rfl) (by omega) _).mono ?_
  rintro e w8 ⟨s1, A1, n1, c1, x1, rfl, D1, B8⟩
  go_wp2_with fail
  refine (part_any false 3 2 (by omega) (by omega) (fun _ => rfl) (by omega) _).mono ?_
  rintro e w9 ⟨s2, A2, n2, c2, x2, rfl, D2, B9⟩
  have D1 := hid (D1.out.below B9.out)
  have J9 := hid (B8.out.trans (B9.out.mono B8.out.size))
  have K9 := hid (K7.out.trans (J9.out.mono K7.out.size))
  go_wp2_with fail
  refine (sub_good D1.out D2.out trivial trivial (HT.out.below K9.out HT.out.lt) sub13 (okay_small (by omega) (by omega) (fun _ => rfl) (by omega))).mono ?_
  rintro e w10 ⟨sd, Ad, nd, cd, xd, rfl, DD, B10⟩
  go_upto_region 5 with fail
  obtain ⟨wz, hwz⟩ : ∃ wz, wz = w10.alloc (.cells #[.bool sd, .slice Ad nd cd, .int .i64 xd] 24) := ⟨_, rfl⟩
  have PD : Hid (Dbox wz w10.heap.size sd (.slice Ad nd cd) xd) := by rw [hwz]; exact heap_alloc_new _ _
  have B10a : Hid (Below w10.heap.size w10 wz) := by rw [hwz]; exact (Below.refl w10.heap.size w10).alloc (Nat.le_refl _) _
  have J10 := hid ((J9.out.trans (B10.out.mono J9.out.size)).trans (B10a.out.mono (Nat.le_trans J9.out.size B10.out.size)))
  have DD := hid (DD.out.below B10a.out)
  have DA := hid (DA.out.below J10.out)
  have PA := hid (PA.out.below J10.out PA.out.lt)
  have DB := hid (DB.out.below J10.out)
  have PB := hid (PB.out.below J10.out PB.out.lt)
  have DC := hid (DC.out.below J10.out)
  have PC := hid (PC.out.below J10.out PC.out.lt)
  have K10 := hid (K7.out.trans (J10.out.mono K7.out.size))
  rw [← hwz]
  clear hwz D1 D2 B8 B9 K7 K9 B10 B10a J9 J10
  have HBz := hid ((Below.refl wz.heap.size wz).drew)
  have a0 := PA.out.c0
  have a1 := PA.out.c1
  have a2 := PA.out.c2
  have b0 := PB.out.c0
  have b1 := PB.out.c1
  have b2 := PB.out.c2
  have g0 := PC.out.c0
  have g1 := PC.out.c1
  have g2 := PC.out.c2
  have h0 := PD.out.c0
  have h1 := PD.out.c1
  have h2 := PD.out.c2
  have LA := hid PA.out.lt
  have LB := hid PB.out.lt
  have LC := hid PC.out.lt
  have LD := hid PD.out.lt
  clear PA PB PC PD
  go_region_held3 (fun w' => w'.cell? ⟨w2.heap.size, 0, none⟩ = some (.bool sa) ∧ w'.cell? ⟨w2.heap.size, 1, none⟩ = some (.slice Aa na ca) ∧ w'.cell? ⟨w2.heap.size, 2, none⟩ = some (.int .i64 xa) ∧
      w'.cell? ⟨w4.heap.size, 0, none⟩ = some (.bool sb) ∧ w'.cell? ⟨w4.heap.size, 1, none⟩ = some (.slice Ab nb cb) ∧ w'.cell? ⟨w4.heap.size, 2, none⟩ = some (.int .i64 xb) ∧
      w'.cell? ⟨w7.heap.size, 0, none⟩ = some (.bool sc) ∧ w'.cell? ⟨w7.heap.size, 1, none⟩ = some (.slice Ac nc cc) ∧ w'.cell? ⟨w7.heap.size, 2, none⟩ = some (.int .i64 xc) ∧
      w'.cell? ⟨w10.heap.size, 0, none⟩ = some (.bool sd) ∧ w'.cell? ⟨w10.heap.size, 1, none⟩ = some (.slice Ad nd cd) ∧ w'.cell? ⟨w10.heap.size, 2, none⟩ = some (.int .i64 xd))
    (exact ⟨(HBz.out.cell (p := ⟨_, 0, none⟩) LA.out).trans a0, (HBz.out.cell (p := ⟨_, 1, none⟩) LA.out).trans a1, (HBz.out.cell (p := ⟨_, 2, none⟩) LA.out).trans a2, (HBz.out.cell (p := ⟨_, 0, none⟩) LB.out).trans b0, (HBz.out.cell (p := ⟨_, 1, none⟩) LB.out).trans b1, (HBz.out.cell (p := ⟨_, 2, none⟩) LB.out).trans b2,
      (HBz.out.cell (p := ⟨_, 0, none⟩) LC.out).trans g0, (HBz.out.cell (p := ⟨_, 1, none⟩) LC.out).trans g1, (HBz.out.cell (p := ⟨_, 2, none⟩) LC.out).trans g2, (HBz.out.cell (p := ⟨_, 0, none⟩) LD.out).trans h0, (HBz.out.cell (p := ⟨_, 1, none⟩) LD.out).trans h1, (HBz.out.cell (p := ⟨_, 2, none⟩) LD.out).trans h2⟩)
    (first
    | (go_at_call 13
       refine (of_one 12 (by omega) _).mono ?_
       rintro e wa ⟨so, Ao, no, co, xo, rfl, DO, Ba⟩
       have HBz := hid (HBz.out.trans (Ba.out.mono HBz.out.size)))
    | (go_at_call_of 10 (Value.int IntKind.u32 12)
       refine (part_any false 12 0 (by omega) (by omega) (fun h => absurd h (by omega)) (by omega) _).mono ?_
       rintro e wa ⟨sp, Ap, np, cp, xp, rfl, DP, Ba⟩
       have DO := hid (DO.out.below Ba.out)
       have HBz := hid (HBz.out.trans (Ba.out.mono HBz.out.size)))
    | (go_at_call_of 10 (Value.int IntKind.u32 3)
       refine (part_any false 3 1 (by omega) (by omega) (fun _ => rfl) (by omega) _).mono ?_
       rintro e wa ⟨sp, Ap, np, cp, xp, rfl, DP, Ba⟩
       have HBz := hid (HBz.out.trans (Ba.out.mono HBz.out.size)))
    | (go_at_call_of 10 (Value.bool true)
       refine (part_any true 1 2 (by omega) (by omega) (fun _ => rfl) (by omega) _).mono ?_
       rintro e wa ⟨sp, Ap, np, cp, xp, rfl, DP, Ba⟩
       have HBz := hid (HBz.out.trans (Ba.out.mono HBz.out.size)))
    | (go_at_call_of 10 (Value.bool false)
       refine (part_any false 1 0 (by omega) (by omega) (fun h => absurd h (by omega)) (by omega) _).mono ?_
       rintro e wa ⟨sp, Ap, np, cp, xp, rfl, DP, Ba⟩
       have HBz := hid (HBz.out.trans (Ba.out.mono HBz.out.size)))
    | (go_at_call_of 18 (Value.agg #[Value.bool so, Value.slice Ao no co, Value.int IntKind.i64 xo])
       refine (same_true DO.out DP.out trivial trivial rfl).mono ?_
       rintro e wa ⟨rfl, Ba⟩
       have HBz := hid (HBz.out.trans (Ba.out.mono HBz.out.size)))
    | (go_at_call_of 18 (Value.agg #[Value.bool sa, Value.slice Aa na ca, Value.int IntKind.i64 xa])
       refine (same_true (DA.out.below HBz.out) DP.out trivial trivial rfl).mono ?_
       rintro e wa ⟨rfl, Ba⟩
       have HBz := hid (HBz.out.trans (Ba.out.mono HBz.out.size)))
    | (go_at_call_of 18 (Value.agg #[Value.bool sb, Value.slice Ab nb cb, Value.int IntKind.i64 xb])
       refine (same_true (DB.out.below HBz.out) DP.out trivial trivial rfl).mono ?_
       rintro e wa ⟨rfl, Ba⟩
       have HBz := hid (HBz.out.trans (Ba.out.mono HBz.out.size)))
    | (go_at_call_of 18 (Value.agg #[Value.bool sc, Value.slice Ac nc cc, Value.int IntKind.i64 xc])
       refine (same_true (DC.out.below HBz.out) DP.out trivial trivial rfl).mono ?_
       rintro e wa ⟨rfl, Ba⟩
       have HBz := hid (HBz.out.trans (Ba.out.mono HBz.out.size)))
    | (go_at_call_of 18 (Value.agg #[Value.bool sd, Value.slice Ad nd cd, Value.int IntKind.i64 xd])
       refine (same_true (DD.out.below HBz.out) DP.out trivial trivial rfl).mono ?_
       rintro e wa ⟨rfl, Ba⟩
       have HBz := hid (HBz.out.trans (Ba.out.mono HBz.out.size))))
  all_goals
    go_wp2
    go_ret
    exact ⟨rfl, hid (K10.out.trans (HBz.out.mono K10.out.size))⟩

end Go.Proofs.YtjppogmhibmebaaDoor
