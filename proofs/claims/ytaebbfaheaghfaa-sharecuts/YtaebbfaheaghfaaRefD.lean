/- The contracts of falseworkref01, fourth part: Plus. -/
import Derived.Test.YtaebbfaheaghfaaRefC
namespace Go.Proofs.Ytaebbfaheaghfaa
open Go.RowKit

theorem val_add (x y : Int) (x0 : 0 ≤ x) (x1 : x < 1461501637330902918203684832716283019655932542976) (y0 : 0 ≤ y) (y1 : y < 1461501637330902918203684832716283019655932542976) : val (fun i => dgt x i + dgt y i) = x + y := by
  have := sum_dgt x x0 x1
  have := sum_dgt y y0 y1
  simp only [val]
  omega

set_option maxHeartbeats 4000000 in
theorem plus_same (m : Bool) (x y : Int) (w : World) (x0 : 0 ≤ x) (y0 : 0 ≤ y) (h : x + y < 1461501637330902918203684832716283019655932542976) :
    Calls Try.prog 14 #[Nm m x, Nm m y] w fun e w' => e = .returned (Nm m (x + y)) ∧ Made w w' := by
  have p0 := dgt_bd x 0
  have q0 := dgt_bd y 0
  have p1 := dgt_bd x 1
  have q1 := dgt_bd y 1
  have p2 := dgt_bd x 2
  have q2 := dgt_bd y 2
  have p3 := dgt_bd x 3
  have q3 := dgt_bd y 3
  have p4 := dgt_bd x 4
  have q4 := dgt_bd y 4
  have p5 := dgt_bd x 5
  have q5 := dgt_bd y 5
  have p6 := dgt_bd x 6
  have q6 := dgt_bd y 6
  have p7 := dgt_bd x 7
  have q7 := dgt_bd y 7
  have p8 := dgt_bd x 8
  have q8 := dgt_bd y 8
  have p9 := dgt_bd x 9
  have q9 := dgt_bd y 9
  have HV := Lib.hid (val_add x y x0 (by omega) y0 (by omega))
  go_enter Try.func14, Try.ntmps14
  go_wp2
  refine wp_loop_rounds 11 ?_
  iterate 10 (rw [rounds_succ]; go_wp2; go_region; go_wp2)
  rw [rounds_succ]
  go_wp2_with fail
  refine (carry_any (fun i => dgt x i + dgt y i) _ (fun i _ => by have := dgt_bd x i; have := dgt_bd y i; show 0 ≤ dgt x i + dgt y i ∧ dgt x i + dgt y i ≤ 4611686018427387904; omega) (by rw [HV.out]; exact h)).mono ?_
  rintro e w1 ⟨rfl, X, Y, n, rfl⟩
  rw [HV.out]
  clear p0 q0 p1 q1 p2 q2 p3 q3 p4 q4 p5 q5 p6 q6 p7 q7 p8 q8 p9 q9
  go_wp2
  exact bodyPost_ret (v := Nm m (x + y)) (by simp [results, Try.results14, go_sem]) rfl ⟨rfl, by repeat' (first | exact Made.refl _ | refine Made.drew ?_ | refine Made.drewN ?_ _ | refine Made.alloc ?_ _)⟩

set_option maxHeartbeats 4000000 in
theorem plus_gt (m : Bool) (x y : Int) (w : World) (x0 : 0 ≤ x) (x1 : x < 1461501637330902918203684832716283019655932542976) (y0 : 0 ≤ y) (y1 : y < 1461501637330902918203684832716283019655932542976) (h : y < x) :
    Calls Try.prog 14 #[Nm m x, Nm (!m) y] w fun e w' => e = .returned (Nm m (x - y)) ∧ Made w w' := by
  have hd : decide (cmpI x y < 0) = false := by simp only [decide_eq_false_iff_not]; unfold cmpI; rw [if_neg (by omega), if_pos h]; omega
  have hz := eq_D (x - y) (by omega) (by omega)
  have hz2 : (x - y == 0) = false := by simp; omega
  have hm : (m == !m) = false := by cases m <;> rfl
  go_enter Try.func14, Try.ntmps14
  go_wp2_with fail
  refine (less_any x y _ x0 x1 y0 y1).mono ?_
  rintro e w1 ⟨rfl, X, Y, n, rfl⟩
  go_wp2_with fail
  refine (minus_any x y _ x1 y0 (by omega)).mono ?_
  rintro e w2 ⟨rfl, X2, Y2, Z2, n2, rfl⟩
  go_wp2
  exact bodyPost_ret (v := Nm m (x - y)) (by simp [results, Try.results14, go_sem]) rfl ⟨rfl, by repeat' (first | exact Made.refl _ | refine Made.drew ?_ | refine Made.drewN ?_ _ | refine Made.alloc ?_ _)⟩

set_option maxHeartbeats 4000000 in
theorem plus_eq (m : Bool) (x : Int) (w : World) (x0 : 0 ≤ x) (x1 : x < 1461501637330902918203684832716283019655932542976) :
    Calls Try.prog 14 #[Nm m x, Nm (!m) x] w fun e w' => e = .returned (Nm false 0) ∧ Made w w' := by
  have hd : decide (cmpI x x < 0) = false := by simp only [decide_eq_false_iff_not]; unfold cmpI; rw [if_neg (by omega), if_neg (by omega)]; omega
  have hz := eq_D 0 (by omega) (by omega)
  have hm : (m == !m) = false := by cases m <;> rfl
  go_enter Try.func14, Try.ntmps14
  go_wp2_with fail
  refine (less_any x x _ x0 x1 x0 x1).mono ?_
  rintro e w1 ⟨rfl, X, Y, n, rfl⟩
  go_wp2_with fail
  have hmin := minus_any x x
  rw [show x - x = 0 by omega] at hmin
  refine (hmin _ x1 x0 (by omega)).mono ?_
  clear hmin
  rintro e w2 ⟨rfl, X2, Y2, Z2, n2, rfl⟩
  go_wp2
  exact bodyPost_ret (v := Nm false 0) (by simp [results, Try.results14, go_sem]) rfl ⟨rfl, by repeat' (first | exact Made.refl _ | refine Made.drew ?_ | refine Made.drewN ?_ _ | refine Made.alloc ?_ _)⟩

set_option maxHeartbeats 4000000 in
theorem plus_lt (m : Bool) (x y : Int) (w : World) (x0 : 0 ≤ x) (x1 : x < 1461501637330902918203684832716283019655932542976) (y0 : 0 ≤ y) (y1 : y < 1461501637330902918203684832716283019655932542976) (h : x < y) :
    Calls Try.prog 14 #[Nm m x, Nm (!m) y] w fun e w' => e = .returned (Nm (!m) (y - x)) ∧ Made w w' := by
  have hd : decide (cmpI x y < 0) = true := by simp only [decide_eq_true_eq]; unfold cmpI; rw [if_pos h]; omega
  have hz := eq_D (y - x) (by omega) (by omega)
  have hz2 : (y - x == 0) = false := by simp; omega
  have hm : (m == !m) = false := by cases m <;> rfl
  go_enter Try.func14, Try.ntmps14
  go_wp2_with fail
  refine (less_any x y _ x0 x1 y0 y1).mono ?_
  rintro e w1 ⟨rfl, X, Y, n, rfl⟩
  go_wp2_with fail
  refine (minus_any y x _ y1 x0 (by omega)).mono ?_
  rintro e w2 ⟨rfl, X2, Y2, Z2, n2, rfl⟩
  go_wp2
  exact bodyPost_ret (v := Nm (!m) (y - x)) (by simp [results, Try.results14, go_sem]) rfl ⟨rfl, by repeat' (first | exact Made.refl _ | refine Made.drew ?_ | refine Made.drewN ?_ _ | refine Made.alloc ?_ _)⟩

end Go.Proofs.Ytaebbfaheaghfaa
