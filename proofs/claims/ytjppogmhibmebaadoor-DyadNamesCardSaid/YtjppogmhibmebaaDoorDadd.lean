/- Package dyad: Add, Sub. -/
import Derived.Test.YtjppogmhibmebaaDoorDsum
import Derived.Deep.RegionWith
namespace Go.Proofs.YtjppogmhibmebaaDoor
open Go.RowKit

set_option maxHeartbeats 3200000 in
theorem dadd_any {w : World} {p q : Prop} {M N : Int} {v u : Value} (h1 : DArg w p M v) (h2 : DArg w q N u) (hT : Tab w) :
    Calls Tryd.prog 12 #[v, u] w (DRes w (Derrs (p ∧ q) (M + N)) (M + N)) := by
  have CS : Hid (∀ (w' : World) (g : Nat), Below w.heap.size w w' → w'.cell? ⟨g, 0, none⟩ = some (.bool false) → Calls Tryd.prog 37 #[v, u, .func (.func 68) #[] #[.pointer (some ⟨g, 0, none⟩)]] w' (DRes w' (Derrs (p ∧ q) (M + N)) (M + N))) :=
    fun w' g hb hq => dsum_any false (h1.below hb) (h2.below hb) (hT.below hb hT.lt) hq
  obtain ⟨s, A, n, c, f, x, rfl, _, _, _⟩ := h1
  obtain ⟨t, D, k, d, h, y, rfl, _, _, _⟩ := h2
  generalize M + N = R at *
  have B4 := hid (below4 w (.cells #[.bool s, .slice A n c, .int .i64 x] 24) (.cells #[.bool t, .slice D k d, .int .i64 y] 24) (.cells #[.bool false, .slice none 0 0, .int .i64 0] 24) (.cells #[.bool false] 4))
  have D2 : Hid (Dbox _ (w.heap.size + 2) false (.slice none 0 0) 0) := heap4_2 w (.cells #[.bool s, .slice A n c, .int .i64 x] 24) (.cells #[.bool t, .slice D k d, .int .i64 y] 24) _ (.cells #[.bool false] 4)
  have H3 := hid (cell_of_row _ _ 0 _ _ (0, 0) (heap4_3 w (.cells #[.bool s, .slice A n c, .int .i64 x] 24) (.cells #[.bool t, .slice D k d, .int .i64 y] 24) (.cells #[.bool false, .slice none 0 0, .int .i64 0] 24) (.cells #[.bool false] 4)))
  clear hT
  go_enter Tryd.func12, Tryd.ntmps12
  go_wp2_with fail
  go_region_with (first
    | (go_at_call 38
       refine (signs_any false _).mono ?_
       rintro e w' ⟨rfl, rfl⟩)
    | (go_at_call 37
       refine (CS.out _ (w.heap.size + 3) B4.out.drew H3.out).mono ?_
       rintro e w1 ⟨dd, er, rfl, HE, HD, Hb⟩
       obtain ⟨s1, v1, x1, V1, rfl, hn1, hc1, hx1, hd1⟩ := HD.out
       obtain ⟨A1, n1, d1, rfl⟩ := hn1.shape
       have P2 := hid ((Dbox.drew D2.out).below Hb.out D2.out.lt)
       have g0 := P2.out.frozen 0
       have g1 := P2.out.frozen 1
       have g2 := P2.out.frozen 2
       have b0 := P2.out.c0
       have b1 := P2.out.c1
       have b2 := P2.out.c2))
  all_goals
    have B1 := hid (B4.out.drew.trans (Hb.out.mono B4.out.size))
    clear g0 g1 g2 b0 b1 b2 CS
    go_wp2
    refine ret_dyad rfl rfl rfl rfl (P2.out.store (t := s1) (u := .slice A1 n1 d1) (y := (x1 : Int))) ?_
    refine ⟨_, er, rfl, HE.out, ⟨s1, _, x1, V1, rfl, (hn1.put3 ?_).mono B4.out.size, hc1, hx1, hd1⟩, below_put3 B1.out (by omega)⟩
    exact D2.out.lt

set_option maxHeartbeats 3200000 in
theorem dsub_any {w : World} {p q : Prop} {M N : Int} {v u : Value} (h1 : DArg w p M v) (h2 : DArg w q N u) (hT : Tab w) :
    Calls Tryd.prog 14 #[v, u] w (DRes w (Derrs (p ∧ q) (M - N)) (M - N)) := by
  have CS : Hid (∀ (w' : World) (g : Nat), Below w.heap.size w w' → w'.cell? ⟨g, 0, none⟩ = some (.bool true) → Calls Tryd.prog 37 #[v, u, .func (.func 68) #[] #[.pointer (some ⟨g, 0, none⟩)]] w' (DRes w' (Derrs (p ∧ q) (M - N)) (M - N))) :=
    fun w' g hb hq => dsum_any true (h1.below hb) (h2.below hb) (hT.below hb hT.lt) hq
  obtain ⟨s, A, n, c, f, x, rfl, _, _, _⟩ := h1
  obtain ⟨t, D, k, d, h, y, rfl, _, _, _⟩ := h2
  generalize M - N = R at *
  have B4 := hid (below4 w (.cells #[.bool s, .slice A n c, .int .i64 x] 24) (.cells #[.bool t, .slice D k d, .int .i64 y] 24) (.cells #[.bool false, .slice none 0 0, .int .i64 0] 24) (.cells #[.bool true] 4))
  have D2 : Hid (Dbox _ (w.heap.size + 2) false (.slice none 0 0) 0) := heap4_2 w (.cells #[.bool s, .slice A n c, .int .i64 x] 24) (.cells #[.bool t, .slice D k d, .int .i64 y] 24) _ (.cells #[.bool true] 4)
  have H3 := hid (cell_of_row _ _ 0 _ _ (0, 0) (heap4_3 w (.cells #[.bool s, .slice A n c, .int .i64 x] 24) (.cells #[.bool t, .slice D k d, .int .i64 y] 24) (.cells #[.bool false, .slice none 0 0, .int .i64 0] 24) (.cells #[.bool true] 4)))
  clear hT
  go_enter Tryd.func14, Tryd.ntmps14
  go_wp2_with fail
  go_region_with (first
    | (go_at_call 38
       refine (signs_any true _).mono ?_
       rintro e w' ⟨rfl, rfl⟩)
    | (go_at_call 37
       refine (CS.out _ (w.heap.size + 3) B4.out.drew H3.out).mono ?_
       rintro e w1 ⟨dd, er, rfl, HE, HD, Hb⟩
       obtain ⟨s1, v1, x1, V1, rfl, hn1, hc1, hx1, hd1⟩ := HD.out
       obtain ⟨A1, n1, d1, rfl⟩ := hn1.shape
       have P2 := hid ((Dbox.drew D2.out).below Hb.out D2.out.lt)
       have g0 := P2.out.frozen 0
       have g1 := P2.out.frozen 1
       have g2 := P2.out.frozen 2
       have b0 := P2.out.c0
       have b1 := P2.out.c1
       have b2 := P2.out.c2))
  all_goals
    have B1 := hid (B4.out.drew.trans (Hb.out.mono B4.out.size))
    clear g0 g1 g2 b0 b1 b2 CS
    go_wp2
    refine ret_dyad rfl rfl rfl rfl (P2.out.store (t := s1) (u := .slice A1 n1 d1) (y := (x1 : Int))) ?_
    refine ⟨_, er, rfl, HE.out, ⟨s1, _, x1, V1, rfl, (hn1.put3 ?_).mono B4.out.size, hc1, hx1, hd1⟩, below_put3 B1.out (by omega)⟩
    exact D2.out.lt

end Go.Proofs.YtjppogmhibmebaaDoor
