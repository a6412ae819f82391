/- The reference's told; limbs of one number are the same. -/
import Derived.Test.YtflegkefgbifcaaRlimbs
import Derived.Test.YtflegkefgbifcaaRsame
import Derived.Test.YtflegkefgbifcaaSpoil
namespace Go.Proofs.Ytflegkefgbifcaa
open Go.RowKit

theorem lm_40 {n V : Nat} {h : Nat → Nat} (hlt : ∀ j, h j < 4294967296) (h1 : 0 < n → h (n - 1) ≠ 0) (hV : vl h n = V) : n ≤ 40 ↔ V < pw 40 := by
  subst hV
  constructor
  · intro hn
    exact Nat.lt_of_lt_of_le (vl_lt fun j _ => hlt j) (pw_mono hn)
  · intro hV
    rcases Nat.lt_or_ge 40 n with h2 | h2
    · have a := vl_ge (f := h) (k := n) (by omega) (h1 (by omega))
      have b : pw 40 ≤ pw (n - 1) := pw_mono (by omega)
      omega
    · exact h2

set_option maxHeartbeats 800000 in
theorem told_any {w : World} {B V : Nat} {v0 : Value} (hb : Bt w B V v0) (hB : B ≤ w.heap.size) (hV : V < tw 4000) :
    Calls Try.prog 28 #[v0] w (Back w (· = overErr V) V) := by
  have Cl := hid (Limbs_any hb hB hV)
  clear hb hB hV
  go_enter Try.func28, Try.ntmps28
  go_wp2_with fail
  refine Cl.out.mono ?_
  rintro e w' ⟨v, rfl, hbel, A, n, c, h, rfl, hr, hl, hv⟩
  have h40 := lm_40 hr.lt hl hv
  have Hr := hid hr
  have Hl := hid hl
  have Hv := hid hv
  have Hbel := hid hbel
  have hm := hr.max
  clear hr hl hv hbel Cl
  by_cases hn : n ≤ 40
  · have Hn := hid (h40.1 hn)
    clear h40
    go_wp2
    go_ret2
    refine ⟨_, 0, rfl, hid (if_pos Hn.out).symm, ?_, Hbel⟩
    rw [resV_ok rfl]
    exact ⟨_, _, _, _, rfl, Hr.out, ⟨hn, Hl.out⟩, Hv.out⟩
  · have Hn := hid (fun hh => hn (h40.2 hh))
    clear h40
    go_wp2
    go_ret2
    refine ⟨_, 10, rfl, hid (if_neg Hn.out).symm, ?_, Hbel⟩
    rw [resV_bad (by decide)]
    exact Val.nil _

theorem lm_val {w : World} {V : Nat} {v : Value} (h : Lm w w.heap.size V v) (hV : V < pw 40) : Val w V v := by
  obtain ⟨A, n, c, f, rfl, hr, hl, hv⟩ := h
  exact ⟨A, n, c, f, rfl, hr, ⟨(lm_40 hr.lt hl hv).2 hV, hl⟩, hv⟩
theorem Val.lm {w : World} {V : Nat} {v : Value} (h : Val w V v) : Lm w w.heap.size V v := by
  obtain ⟨A, n, c, f, rfl, hr, hf, hv⟩ := h
  exact ⟨A, n, c, f, rfl, hr, hf.2, hv⟩

/-- A call that answers limbs and an error, of the program's own. -/
theorem Ans.got {t : TypeId} {w w' : World} {er : Int} {V : Nat} {e : Ending} (h : Ans t w er V e w') : Below w.heap.size w w' ∧ ∃ v, e = .returned (.tuple #[v, .int .i64 er]) ∧ Got t w.heap.size w' er V v := by
  obtain ⟨hb, v, he, hg, hn⟩ := h
  exact ⟨hb, v, he, hg, hn⟩
theorem Got.val {t : TypeId} {B V : Nat} {w : World} {er : Int} {v : Value} (h : Got t B w er V v) : Val w (resV er V) v := by
  by_cases he : er = 0
  · rw [resV_ok he]; exact (h.1 he).val
  · rw [resV_bad he, h.2 he]; exact Val.nil w
theorem rsame_val {V : Nat} {v1 v2 : Value} {w : World} (h1 : Val w V v1) (h2 : Val w V v2) :
    Calls Try.prog 10 #[v1, v2] w fun e w' => e = .returned (.bool true) ∧ ∃ q, w.drewN q = w' := rsame_lm h1.lm h2.lm

end Go.Proofs.Ytflegkefgbifcaa
