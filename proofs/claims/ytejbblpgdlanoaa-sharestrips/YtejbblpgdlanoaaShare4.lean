/- share.Strip and falseworkref02.Strip where the points can be; share.Exact. -/
import Derived.Test.YtejbblpgdlanoaaShareB
import Derived.Test.YtejbblpgdlanoaaRefK
namespace Go.Proofs.Ytejbblpgdlanoaa
open Go.RowKit

/-- the points of a total -/
def ptF (t p : Int) : Int := t * p / 10000
theorem pt_bd (t p : Int) (ht : 0 ≤ t) (hp : 0 ≤ p) (hp2 : p ≤ 10000) : 0 ≤ ptF t p ∧ ptF t p ≤ t := by
  unfold ptF
  have h1 := Int.mul_nonneg ht hp
  have h2 : t * p ≤ t * 10000 := Int.mul_le_mul_of_nonneg_left hp2 ht
  omega
theorem pt_cut {t p : Int} (hT : I t) (ht : 0 ≤ t) (hp : 0 ≤ p) (hp2 : p ≤ 10000) : flV (t * p) 10000 = ptF t p ∧ flE (t * p) 10000 = 0 := by
  have h := pt_bd t p ht hp hp2
  have hI : I (t * p / 10000) := by
    have : t * p / 10000 = ptF t p := rfl
    unfold I at hT ⊢; omega
  exact ⟨by unfold flV; rw [if_neg (by decide), cutV_in hI]; rfl, by unfold flE; rw [if_neg (by decide), cutE_in hI]⟩

set_option maxHeartbeats 2000000 in
theorem strip_yes (t p : Int) (w : World) (hT : I t) (ht : 0 ≤ t) (hp : 0 ≤ p) (hp2 : p ≤ 10000) :
    Calls Try.prog 29 #[.int .i64 t, .int .i64 p] w fun e w' => e = .returned (.tuple #[.int .i64 (ptF t p), .int .i64 (t - ptF t p), .int .i64 0]) ∧ Below w.heap.size w w' := by
  have hf := fun W => floor_any t p 10000 W hT (by unfold I; omega) (by decide)
  rw [(pt_cut hT ht hp hp2).1, (pt_cut hT ht hp hp2).2] at hf
  have HF := fun W => Lib.hid (hf W)
  have hb := pt_bd t p ht hp hp2
  generalize ptF t p = q at *
  have d1 : decide (t < 0) = false := by simp only [decide_eq_false_iff_not]; omega
  have d2 : decide (p < 0) = false := by simp only [decide_eq_false_iff_not]; omega
  have d3 : decide (10000 < p) = false := by simp only [decide_eq_false_iff_not]; omega
  unfold I at hT
  clear hf
  go_enter Try.func29, Try.ntmps29
  go_wp2_with fail
  refine (HF _).out.mono ?_
  rintro e w1 ⟨rfl, hb1⟩
  go_wp2
  go_ret3
  exact ⟨rfl, hb1⟩

set_option maxHeartbeats 2000000 in
theorem refStrip_yes (t p : Int) (w : World) (hT : I t) (ht : 0 ≤ t) (hp : 0 ≤ p) (hp2 : p ≤ 10000) :
    Calls Try.prog 33 #[.int .i64 t, .int .i64 p] w fun e w' => e = .returned (.tuple #[.int .i64 (ptF t p), .int .i64 (t - ptF t p), .int .i64 0]) ∧ Below w.heap.size w w' := by
  have hf := fun W => refFloor_any t p 10000 W hT (by unfold I; omega) (by decide)
  rw [(pt_cut hT ht hp hp2).1, (pt_cut hT ht hp hp2).2] at hf
  have HF := fun W => Lib.hid (hf W)
  have hb := pt_bd t p ht hp hp2
  generalize ptF t p = q at *
  have d1 : decide (t < 0) = false := by simp only [decide_eq_false_iff_not]; omega
  have d2 : decide (p < 0) = false := by simp only [decide_eq_false_iff_not]; omega
  have d3 : decide (10000 < p) = false := by simp only [decide_eq_false_iff_not]; omega
  unfold I at hT
  clear hf
  go_enter Try.func33, Try.ntmps33
  go_wp2_with fail
  refine (HF _).out.mono ?_
  rintro e w1 ⟨rfl, hb1⟩
  go_wp2
  go_ret3
  exact ⟨rfl, hb1⟩

set_option maxHeartbeats 2000000 in
theorem refStrip_no (t p : Int) (w : World) (h : t < 0 ∨ p < 0 ∨ 10000 < p) :
    Calls Try.prog 33 #[.int .i64 t, .int .i64 p] w fun e w' => e = .returned (.tuple #[.int .i64 0, .int .i64 0, .int .i64 21]) ∧ w = w' := by
  by_cases h1 : t < 0
  · have d1 : decide (t < 0) = true := by simpa using h1
    go_enter Try.func33, Try.ntmps33
    go_wp2
    go_ret3
    exact ⟨rfl, rfl⟩
  · have d1 : decide (t < 0) = false := by simpa using h1
    by_cases h2 : p < 0
    · have d2 : decide (p < 0) = true := by simpa using h2
      go_enter Try.func33, Try.ntmps33
      go_wp2
      go_ret3
      exact ⟨rfl, rfl⟩
    · have d2 : decide (p < 0) = false := by simpa using h2
      have h3 : 10000 < p := by omega
      have d3 : decide (10000 < p) = true := by simpa using h3
      go_enter Try.func33, Try.ntmps33
      go_wp2
      go_ret3
      exact ⟨rfl, rfl⟩

set_option maxHeartbeats 2000000 in
theorem exact_any (p t x s : Int) (w : World) (hp : I p) (ht : I t) (hx : I x) (hs : I s) :
    Calls Try.prog 34 #[.int .i64 p, .int .i64 t, .int .i64 x, .int .i64 s] w fun e w' => e = .returned (.int .i64 (cmpI (p * s) (t * x))) ∧ Below w.heap.size w w' := by
  have H := fun W => Lib.hid (cross_any p s t x W hp hs ht hx)
  generalize cmpI (p * s) (t * x) = r at *
  go_enter Try.func34, Try.ntmps34
  go_wp2_with fail
  refine (H _).out.mono ?_
  rintro e w1 ⟨rfl, hb1⟩
  go_wp2
  go_ret
  exact ⟨rfl, hb1⟩
end Go.Proofs.Ytejbblpgdlanoaa
