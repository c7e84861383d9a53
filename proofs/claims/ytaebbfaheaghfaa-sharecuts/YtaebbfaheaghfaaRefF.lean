/- The contracts of falseworkref01, sixth part: Cut. -/
import Derived.Test.YtaebbfaheaghfaaRefE
namespace Go.Proofs.Ytaebbfaheaghfaa
open Go.RowKit

@[go_sem] theorem lt_grew1 (w : World) (L : List Obj) (b : Nat) (h : b < w.heap.size) : (b < (grew w L).heap.size + 1) = True := by
  rw [grew_size]
  exact eq_true (by omega)
@[go_sem] theorem lt_grew2 (w : World) (L : List Obj) (b : Nat) (h : b < w.heap.size) : (b < (grew w L).heap.size + 1 + 1) = True := by
  rw [grew_size]
  exact eq_true (by omega)
@[go_sem] theorem lt_grew3 (w : World) (L : List Obj) (b : Nat) (h : b < w.heap.size) : (b < (grew w L).heap.size + 1 + 1 + 1) = True := by
  rw [grew_size]
  exact eq_true (by omega)
@[go_sem] theorem lt_grew4 (w : World) (L : List Obj) (b : Nat) (h : b < w.heap.size) : (b < (grew w L).heap.size + 1 + 1 + 1 + 1) = True := by
  rw [grew_size]
  exact eq_true (by omega)
@[go_sem] theorem lt_grew5 (w : World) (L : List Obj) (b : Nat) (h : b < w.heap.size) : (b < (grew w L).heap.size + 1 + 1 + 1 + 1 + 1) = True := by
  rw [grew_size]
  exact eq_true (by omega)
instance (n : Int) : Decidable (Far n) := by unfold Far; infer_instance
theorem far_max : Far 9223372036854775807 := by decide
theorem far_min : Far (-9223372036854775808) := by decide

set_option maxHeartbeats 4000000 in
theorem cut_above (n : Int) (w : World) (hn : Far n) (h : 9223372036854775807 < n) :
    Calls Try.prog 13 #[V n] w fun e w' => e = .returned (.tuple #[.int .i64 (cutV n), .int .i64 (cutE n)]) ∧ Made w w' := by
  have hc := compare_any n 9223372036854775807
  rw [show cmpI n 9223372036854775807 = 1 by unfold cmpI; rw [if_neg (by omega), if_pos h]] at hc
  have HC := fun w => Lib.hid (hc w hn far_max)
  clear hc
  have hV := Lib.hid (cutV_out (n := n) (by unfold I; omega))
  have hE := Lib.hid (cutE_out (n := n) (by unfold I; omega))
  clear hn h
  go_enter Try.func13, Try.ntmps13
  go_upto_region 1 with (fail)
  go_cut [18] (fun s wx => s = .bool true ∧ Made w wx)
  case first =>
    go_region_with (first | (go_at_call 15; refine (of_any 9223372036854775807 _ (by decide)).mono ?_; rintro e w1 ⟨rfl, X1, Y1, rfl⟩) | (go_at_call 33; refine (HC _).out.mono ?_; rintro e w2 ⟨rfl, L, k, rfl⟩))
    all_goals
      go_wp2_with fail
      go_meet
      exact ⟨rfl, (by repeat' (first | exact Made.refl _ | refine Made.drew ?_ | refine Made.drewN ?_ _ | refine Made.alloc ?_ _ | refine Made.grew ?_ _))⟩
  case rest =>
    obtain ⟨rfl, hm⟩ := hcut
    go_wp2
    go_ret2
    exact ⟨ret_two hV.out.symm hE.out.symm, hm⟩

set_option maxHeartbeats 8000000 in
theorem cut_under (n : Int) (w : World) (hn : Far n) (h : n < -9223372036854775808) :
    Calls Try.prog 13 #[V n] w fun e w' => e = .returned (.tuple #[.int .i64 (cutV n), .int .i64 (cutE n)]) ∧ Made w w' := by
  have hp := plus_any2 (-9223372036854775807) (-1)
  rw [show (-9223372036854775807 + -1 : Int) = -9223372036854775808 by decide] at hp
  have HPL := fun w => Lib.hid (hp w (by decide) (by decide))
  have hc1 := compare_any n 9223372036854775807
  have hc2 := compare_any n (-9223372036854775808)
  have HC1 := fun w => Lib.hid (hc1 w hn far_max)
  have HC2 := fun w => Lib.hid (hc2 w hn far_min)
  clear hp hc1 hc2
  have d1 : decide (0 < cmpI n 9223372036854775807) = false := by simp only [decide_eq_false_iff_not]; unfold cmpI; split <;> (try split) <;> omega
  have d2 : decide (cmpI n (-9223372036854775808) < 0) = true := by simp only [decide_eq_true_eq]; unfold cmpI; rw [if_pos h]; omega
  have hV := Lib.hid (cutV_out (n := n) (by unfold I; omega))
  have hE := Lib.hid (cutE_out (n := n) (by unfold I; omega))
  clear hn h
  go_enter Try.func13, Try.ntmps13
  go_upto_region 1 with (fail)
  go_cut [18] (fun s wx => s = .bool true ∧ Made w wx ∧ IsNum wx w.heap.size (neg? n) (absI n))
  case first =>
    go_region_held3 (fun w' => w'.cell? ⟨w.heap.size, 0, none⟩ = some (.bool (neg? n)) ∧ w'.cell? ⟨w.heap.size, 1, none⟩ = some (.int .u64 (dgt (absI n) 0)) ∧ w'.cell? ⟨w.heap.size, 2, none⟩ = some (.int .u64 (dgt (absI n) 1)) ∧ w'.cell? ⟨w.heap.size, 3, none⟩ = some (.int .u64 (dgt (absI n) 2)) ∧ w'.cell? ⟨w.heap.size, 4, none⟩ = some (.int .u64 (dgt (absI n) 3)) ∧ w'.cell? ⟨w.heap.size, 5, none⟩ = some (.int .u64 (dgt (absI n) 4)) ∧ w'.cell? ⟨w.heap.size, 6, none⟩ = some (.int .u64 (dgt (absI n) 5)) ∧ w'.cell? ⟨w.heap.size, 7, none⟩ = some (.int .u64 (dgt (absI n) 6)) ∧ w'.cell? ⟨w.heap.size, 8, none⟩ = some (.int .u64 (dgt (absI n) 7)) ∧ w'.cell? ⟨w.heap.size, 9, none⟩ = some (.int .u64 (dgt (absI n) 8)) ∧ w'.cell? ⟨w.heap.size, 10, none⟩ = some (.int .u64 (dgt (absI n) 9))) (simp (maxDischargeDepth := 10) [go_sem]) (first | (go_at_call 15; refine (of_any _ _ (by decide)).mono ?_; rintro e w1 ⟨rfl, X1, Y1, rfl⟩) | (go_at_call 14; ((with_reducible refine (HPL _).out.mono ?_); rintro e w2 ⟨rfl, L2, k2, rfl⟩)) | (go_at_call 33; ((with_reducible refine (HC1 _).out.mono ?_); rintro e w2 ⟨rfl, L, k, rfl⟩)) | (go_at_call 33; ((with_reducible refine (HC2 _).out.mono ?_); rintro e w2 ⟨rfl, L4, k4, rfl⟩)))
    all_goals
      go_wp2_with fail
      go_meet
      refine ⟨rfl, (by repeat' (first | exact Made.refl _ | refine Made.drew ?_ | refine Made.drewN ?_ _ | refine Made.alloc ?_ _ | refine Made.grew ?_ _)), ?_⟩
      constructor <;> simp (maxDischargeDepth := 10) [go_sem]
  case rest =>
    obtain ⟨rfl, hm, hnum⟩ := hcut
    clear hnum
    go_wp2
    go_ret2
    exact ⟨ret_two hV.out.symm hE.out.symm, hm⟩

theorem low4 (x : Int) (x0 : 0 ≤ x) (x1 : x ≤ 9223372036854775808) : dgt x 3 * 281474976710656 + dgt x 2 * 4294967296 + dgt x 1 * 65536 + dgt x 0 = x := by
  simp only [dgt0, dgt1, dgt2, dgt3]
  omega

set_option maxHeartbeats 8000000 in
theorem cut_in (n : Int) (w : World) (h : I n) :
    Calls Try.prog 13 #[V n] w fun e w' => e = .returned (.tuple #[.int .i64 (cutV n), .int .i64 (cutE n)]) ∧ Made w w' := by
  have hn := far_I h
  have hp := plus_any2 (-9223372036854775807) (-1)
  rw [show (-9223372036854775807 + -1 : Int) = -9223372036854775808 by decide] at hp
  have HPL := fun w => Lib.hid (hp w (by decide) (by decide))
  have hc1 := compare_any n 9223372036854775807
  have hc2 := compare_any n (-9223372036854775808)
  have HC1 := fun w => Lib.hid (hc1 w hn far_max)
  have HC2 := fun w => Lib.hid (hc2 w hn far_min)
  clear hp hc1 hc2
  have d1 : decide (0 < cmpI n 9223372036854775807) = false := by simp only [decide_eq_false_iff_not]; unfold I at h; unfold cmpI; split <;> (try split) <;> omega
  have d2 : decide (cmpI n (-9223372036854775808) < 0) = false := by simp only [decide_eq_false_iff_not]; unfold I at h; unfold cmpI; split <;> (try split) <;> omega
  have hV := Lib.hid (cutV_in h)
  have hE := Lib.hid (cutE_in h)
  have hx : 0 ≤ absI n ∧ absI n ≤ 9223372036854775808 := by unfold I at h; unfold absI; split <;> omega
  have hsg : Hid (n = if neg? n then -(absI n) else absI n) := by
    show n = _
    unfold neg? absI
    by_cases hs : n < 0
    · simp [hs]
    · simp [hs]
  have hlo := low4 (absI n) hx.1 hx.2
  have hbig : neg? n = false → absI n ≤ 9223372036854775807 := by
    intro hs
    unfold neg? at hs
    simp only [decide_eq_false_iff_not] at hs
    unfold I at h
    unfold absI
    rw [if_neg hs]
    omega
  have HB := Lib.hid hbig
  have HL := Lib.hid hlo
  have HX := Lib.hid hx
  clear hn h hbig hlo hx
  go_enter Try.func13, Try.ntmps13
  go_upto_region 1 with (fail)
  go_cut [18] (fun s wx => s = .bool false ∧ Made w wx ∧ IsNum wx w.heap.size (neg? n) (absI n))
  case first =>
    go_region_held3 (fun w' => w'.cell? ⟨w.heap.size, 0, none⟩ = some (.bool (neg? n)) ∧ w'.cell? ⟨w.heap.size, 1, none⟩ = some (.int .u64 (dgt (absI n) 0)) ∧ w'.cell? ⟨w.heap.size, 2, none⟩ = some (.int .u64 (dgt (absI n) 1)) ∧ w'.cell? ⟨w.heap.size, 3, none⟩ = some (.int .u64 (dgt (absI n) 2)) ∧ w'.cell? ⟨w.heap.size, 4, none⟩ = some (.int .u64 (dgt (absI n) 3)) ∧ w'.cell? ⟨w.heap.size, 5, none⟩ = some (.int .u64 (dgt (absI n) 4)) ∧ w'.cell? ⟨w.heap.size, 6, none⟩ = some (.int .u64 (dgt (absI n) 5)) ∧ w'.cell? ⟨w.heap.size, 7, none⟩ = some (.int .u64 (dgt (absI n) 6)) ∧ w'.cell? ⟨w.heap.size, 8, none⟩ = some (.int .u64 (dgt (absI n) 7)) ∧ w'.cell? ⟨w.heap.size, 9, none⟩ = some (.int .u64 (dgt (absI n) 8)) ∧ w'.cell? ⟨w.heap.size, 10, none⟩ = some (.int .u64 (dgt (absI n) 9))) (simp (maxDischargeDepth := 10) [go_sem]) (first | (go_at_call 15; refine (of_any _ _ (by decide)).mono ?_; rintro e w1 ⟨rfl, X1, Y1, rfl⟩) | (go_at_call 14; ((with_reducible refine (HPL _).out.mono ?_); rintro e w2 ⟨rfl, L2, k2, rfl⟩)) | (go_at_call 33; ((with_reducible refine (HC1 _).out.mono ?_); rintro e w2 ⟨rfl, L, k, rfl⟩)) | (go_at_call 33; ((with_reducible refine (HC2 _).out.mono ?_); rintro e w2 ⟨rfl, L4, k4, rfl⟩)))
    all_goals
      go_wp2_with fail
      go_meet
      refine ⟨rfl, (by repeat' (first | exact Made.refl _ | refine Made.drew ?_ | refine Made.drewN ?_ _ | refine Made.alloc ?_ _ | refine Made.grew ?_ _)), ?_⟩
      constructor <;> simp (maxDischargeDepth := 10) [go_sem]
  case rest =>
    obtain ⟨rfl, hm, hnum⟩ := hcut
    obtain ⟨c0, c1, c2, c3, c4, c5, c6, c7, c8, c9, c10⟩ := hnum
    clear HPL HC1 HC2 d1 d2 c5 c6 c7 c8 c9 c10
    have e := hsg.out
    clear hsg
    generalize absI n = x at *
    have b0 := dgt_bd x 0
    have b1 := dgt_bd x 1
    have b2 := dgt_bd x 2
    have b3 := dgt_bd x 3
    have q : dgt x 3 * 281474976710656 + dgt x 2 * 4294967296 + dgt x 1 * 65536 + dgt x 0 ≤ 9223372036854775808 := by have := HL.out; have := HX.out; omega
    cases hs : neg? n
    · rw [hs] at c0 e
      have q2 : dgt x 3 * 281474976710656 + dgt x 2 * 4294967296 + dgt x 1 * 65536 + dgt x 0 ≤ 9223372036854775807 := by have := HL.out; have := HB.out hs; omega
      have E := Lib.hid e
      clear e hs HB HX
      go_wp2
      refine wp_loop_rounds 5 ?_
      iterate 4 (rw [rounds_succ]; go_wp2)
      rw [rounds_succ]
      go_wp2
      go_ret2
      refine ⟨ret_two ?_ hE.out.symm, hm⟩
      have := E.out
      have := HL.out
      rw [hV.out]
      simp at *
      omega
    · rw [hs] at c0 e
      have E := Lib.hid e
      clear e hs HB HX
      go_wp2
      refine wp_loop_rounds 5 ?_
      iterate 4 (rw [rounds_succ]; go_wp2)
      rw [rounds_succ]
      go_wp2
      go_ret2
      refine ⟨ret_two ?_ hE.out.symm, hm⟩
      have := E.out
      have := HL.out
      rw [hV.out]
      simp at *
      omega

theorem cut_any (n : Int) (w : World) (hn : Far n) :
    Calls Try.prog 13 #[V n] w fun e w' => e = .returned (.tuple #[.int .i64 (cutV n), .int .i64 (cutE n)]) ∧ Made w w' := by
  by_cases h1 : 9223372036854775807 < n
  · exact cut_above n w hn h1
  · by_cases h2 : n < -9223372036854775808
    · exact cut_under n w hn h2
    · exact cut_in n w ⟨by omega, by omega⟩

end Go.Proofs.Ytaebbfaheaghfaa
