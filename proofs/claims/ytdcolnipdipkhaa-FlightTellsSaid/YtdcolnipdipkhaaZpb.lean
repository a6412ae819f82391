/- Flight, the program: find, over what is asked of a load. -/
import Derived.Test.YtdcolnipdipkhaaZpa
import Derived.Test.YtdcolnipdipkhaaVaj
namespace Go.Proofs.Ytdcolnipdipkhaa.Fli
set_option maxRecDepth 100000
open Go.RowKit Go.Shelf Go.Lib

/-- What find leaves: the place, and whether there is one. -/
def FndR (I J : Nat → World → Prop) (B : Nat) (w : World) (n : Nat) (e : Ending) (w' : World) : Prop := ∃ (i : Nat) (t : Bool), e = .returned (.tuple #[.int .i64 (i : Int), .bool t]) ∧ Hid ((t = true ∧ i < n ∧ J i w' ∨ t = false ∧ i = n ∧ I n w') ∧ Below B w w')
set_option maxHeartbeats 6400000 in
theorem findb_any (I J : Nat → World → Prop) (g : FuncId) (lb : Array Value) (eg : ∀ args w, (callFunc g args).run Try.prog w = .ok (.enter g args) w) {w : World} {B n c : Nat} {A : Option Addr} {l : List (Ld Pm)} (h : Lls w B A n c l) (hB : B ≤ w.heap.size) (t : Bool)
    (hI : ∀ k W W', I k W → Below W.heap.size W W' → I k W') (h0 : I 0 w)
    (hs : ∀ k p r W, l[k]? = some p → Below B w W → Lrd W B r p → I k W → Calls Try.prog g (#[.agg (lcells r.1 r.2.1 r.2.2.1 r.2.2.2)] ++ lb) W fun e w' => ∃ b : Bool, e = .returned (.bool b) ∧ Hid ((b = t ∧ J k w' ∨ b = !t ∧ I (k + 1) w') ∧ Below B W w')) :
    Calls Try.prog 27 #[.slice A n c, .func (.func g) #[] lb, .bool t] w (FndR I J B w n) := by
  have H := hid h
  have hm := h.max
  have hcap := h.cap
  have HI := hid hI
  have HS := hid hs
  have H0 := hid h0
  clear h hI hs h0
  cases t
  all_goals
    go_enter Try.func27, Try.ntmps27
    go_wp2
    go_loopg [12] n (fun gg s12 wr => ∃ kk : Nat, kk ≤ n ∧ n - kk ≤ gg ∧ s12 = .int .i64 kk ∧ Hid (Below B w wr) ∧ Hid (I kk wr))
    case atStart => exact ⟨0, Nat.zero_le _, by omega, rfl, hid (Below.refl _ w), H0⟩
    case round =>
      obtain ⟨kk, hkk, hg, rfl, BW, HK⟩ := hrel
      by_cases hlt : kk < n
      · have hltz : (kk : Int) < (n : Int) := by omega
        obtain ⟨b, off, r, p, rfl, hb, hp, hr, hc⟩ := (H.out.below BW.out).get hlt
        have hws : B ≤ wr.heap.size := Nat.le_trans hB BW.out.size
        have HR := hid hr
        have HP := hid hp
        obtain ⟨x, y, z, R⟩ := r
        have HX := hid (show wr.rangeAt b (off + kk * 15) (lcells x y z R).toList from fun t v hv => by rw [Nat.add_assoc]; exact hc t v hv)
        have HC := hid (fun W (hb : Below wr.heap.size wr W) => HS.out kk p (x, y, z, R) W HP.out (BW.out.trans (hb.mono hws)) (HR.out.below (hb.mono hws)) (HI.out kk wr W HK.out hb))
        clear hr hp hc
        go_wp2_with (first | (refine wp_lload rfl (.tmp 15) rfl b (off + kk * 15) x y z R rfl HX.out ?_) | fail)
        refine (HC.out _ ((Below.refl _ wr).alloc (Nat.le_refl _) _)).mono ?_
        rintro e w' ⟨b2, rfl, hR⟩
        have BB := hid (BW.out.trans ((((Below.refl _ wr).alloc (Nat.le_refl _) _).mono hws).trans hR.out.2))
        rcases hR.out.1 with ⟨rfl, hJ⟩ | ⟨rfl, hN⟩
        · have HJ := hid hJ
          clear hJ
          go_wp2
          go_ret2
          exact ⟨kk, true, rfl, hid ⟨.inl ⟨rfl, hlt, HJ.out⟩, BB.out⟩⟩
        · have HN := hid hN
          clear hN
          go_wp2
          go_roundg (n - (kk + 1))
          case measure => omega
          case rel => exact ⟨kk + 1, by omega, by omega, by go_num, BB, HN⟩
      · have hltz : ¬ (kk : Int) < (n : Int) := by omega
        obtain rfl : kk = n := by omega
        go_wp2
        go_ret2
        exact ⟨kk, false, rfl, hid ⟨.inr ⟨rfl, rfl, HK.out⟩, BW.out⟩⟩
set_option maxHeartbeats 6400000 in
theorem findi_any (I J : Nat → World → Prop) (g : FuncId) (lb : Array Value) (eg : ∀ args w, (callFunc g args).run Try.prog w = .ok (.enter g args) w) {w : World} {B n c : Nat} {A : Option Addr} {l : List (Ld Pm)} (h : Lls w B A n c l) (hB : B ≤ w.heap.size) (t : Int)
    (hI : ∀ k W W', I k W → Below W.heap.size W W' → I k W') (h0 : I 0 w)
    (hs : ∀ k p r W, l[k]? = some p → Below B w W → Lrd W B r p → I k W → Calls Try.prog g (#[.agg (lcells r.1 r.2.1 r.2.2.1 r.2.2.2)] ++ lb) W fun e w' => ∃ b : Int, e = .returned (.int .i64 b) ∧ Hid ((b = t ∧ J k w' ∨ b ≠ t ∧ I (k + 1) w') ∧ Below B W w')) :
    Calls Try.prog 41 #[.slice A n c, .func (.func g) #[] lb, .int .i64 t] w (FndR I J B w n) := by
  have H := hid h
  have hm := h.max
  have hcap := h.cap
  have HI := hid hI
  have HS := hid hs
  have H0 := hid h0
  clear h hI hs h0
  go_enter Try.func41, Try.ntmps41
  go_wp2
  go_loopg [12] n (fun gg s12 wr => ∃ kk : Nat, kk ≤ n ∧ n - kk ≤ gg ∧ s12 = .int .i64 kk ∧ Hid (Below B w wr) ∧ Hid (I kk wr))
  case atStart => exact ⟨0, Nat.zero_le _, by omega, rfl, hid (Below.refl _ w), H0⟩
  case round =>
    obtain ⟨kk, hkk, hg, rfl, BW, HK⟩ := hrel
    by_cases hlt : kk < n
    · have hltz : (kk : Int) < (n : Int) := by omega
      obtain ⟨b, off, r, p, rfl, hb, hp, hr, hc⟩ := (H.out.below BW.out).get hlt
      have hws : B ≤ wr.heap.size := Nat.le_trans hB BW.out.size
      have HR := hid hr
      have HP := hid hp
      obtain ⟨x, y, z, R⟩ := r
      have HX := hid (show wr.rangeAt b (off + kk * 15) (lcells x y z R).toList from fun t v hv => by rw [Nat.add_assoc]; exact hc t v hv)
      have HC := hid (fun W (hb : Below wr.heap.size wr W) => HS.out kk p (x, y, z, R) W HP.out (BW.out.trans (hb.mono hws)) (HR.out.below (hb.mono hws)) (HI.out kk wr W HK.out hb))
      clear hr hp hc
      go_wp2_with (first | (refine wp_lload rfl (.tmp 15) rfl b (off + kk * 15) x y z R rfl HX.out ?_) | fail)
      refine (HC.out _ ((Below.refl _ wr).alloc (Nat.le_refl _) _)).mono ?_
      rintro e w' ⟨b2, rfl, hR⟩
      have BB := hid (BW.out.trans ((((Below.refl _ wr).alloc (Nat.le_refl _) _).mono hws).trans hR.out.2))
      rcases hR.out.1 with ⟨rfl, hJ⟩ | ⟨hne, hN⟩
      · have HJ := hid hJ
        clear hJ
        go_wp2
        go_ret2
        exact ⟨kk, true, rfl, hid ⟨.inl ⟨rfl, hlt, HJ.out⟩, BB.out⟩⟩
      · have HN := hid hN
        clear hN
        go_wp2
        go_roundg (n - (kk + 1))
        case measure => omega
        case rel => exact ⟨kk + 1, by omega, by omega, by go_num, BB, HN⟩
    · have hltz : ¬ (kk : Int) < (n : Int) := by omega
      obtain rfl : kk = n := by omega
      go_wp2
      go_ret2
      exact ⟨kk, false, rfl, hid ⟨.inr ⟨rfl, rfl, HK.out⟩, BW.out⟩⟩
end Go.Proofs.Ytdcolnipdipkhaa.Fli
