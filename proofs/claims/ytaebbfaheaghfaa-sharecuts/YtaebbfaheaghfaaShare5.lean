/- share.Strip where the points can be. -/
import Derived.Test.YtaebbfaheaghfaaShareB
namespace Go.Proofs.Ytaebbfaheaghfaa
open Go.RowKit

/-- the points of a total -/
def ptF (t p : Int) : Int := t * p / 10000
theorem pt_bd (t p : Int) (ht : 0 ≤ t) (hp : 0 ≤ p) (hp2 : p ≤ 10000) : 0 ≤ ptF t p ∧ ptF t p ≤ t := by
  unfold ptF
  have h1 := Int.mul_nonneg ht hp
  have h2 : t * p ≤ t * 10000 := Int.mul_le_mul_of_nonneg_left hp2 ht
  omega
theorem pt_cut {t p : Int} (hT : I t) (ht : 0 ≤ t) (hp : 0 ≤ p) (hp2 : p ≤ 10000) : flV (t * p) 10000 = ptF t p ∧ flE (t * p) 10000 = 0 := by
  have h := pt_bd t p ht hp hp2
  have hI : I (t * p / 10000) := by
    have : t * p / 10000 = ptF t p := rfl
    unfold I at hT ⊢; omega
  exact ⟨by unfold flV; rw [if_neg (by decide), cutV_in hI]; rfl, by unfold flE; rw [if_neg (by decide), cutE_in hI]⟩

set_option maxHeartbeats 2000000 in
theorem strip_yes (t p : Int) (w : World) (hT : I t) (ht : 0 ≤ t) (hp : 0 ≤ p) (hp2 : p ≤ 10000) :
    Calls Try.prog 26 #[.int .i64 t, .int .i64 p] w fun e w' => e = .returned (.tuple #[.int .i64 (ptF t p), .int .i64 (t - ptF t p), .int .i64 0]) ∧ Below w.heap.size w w' := by
  have hf := fun W => floor_any t p 10000 W hT (by unfold I; omega) (by decide)
  rw [(pt_cut hT ht hp hp2).1, (pt_cut hT ht hp hp2).2] at hf
  have HF := fun W => Lib.hid (hf W)
  have hb := pt_bd t p ht hp hp2
  generalize ptF t p = q at *
  have d1 : decide (t < 0) = false := by simp only [decide_eq_false_iff_not]; omega
  have d2 : decide (p < 0) = false := by simp only [decide_eq_false_iff_not]; omega
  have d3 : decide (10000 < p) = false := by simp only [decide_eq_false_iff_not]; omega
  unfold I at hT
  clear hf
  go_enter Try.func26, Try.ntmps26
  go_wp2_with fail
  refine (HF _).out.mono ?_
  rintro e w1 ⟨rfl, hb1⟩
  go_wp2
  go_ret3
  exact ⟨rfl, hb1⟩

end Go.Proofs.Ytaebbfaheaghfaa
