/- The walk of falseworklaw05.RatePoints. -/
import Derived.Test.YtgokihclfdkgeaaRtN
import Derived.Test.YtgokihclfdkgeaaRtC
import Derived.Test.YtgokihclfdkgeaaRtK
import Derived.Test.YtgokihclfdkgeaaRtO
namespace Go.Proofs.Ytgokihclfdkgeaa
open Go.RowKit Go.Sort

theorem minus_int : floatToIntVal .f64 9223372036854775808 .i64 = some 0 := by decide +kernel
theorem minus_gt : (FloatKind.f64.format.order 9223372036854775808 0 == some .gt) = false := by decide +kernel
theorem minus_eq : (FloatKind.f64.format.order 9223372036854775808 0 == some .eq) = true := by decide +kernel
theorem zero_eq : (FloatKind.f64.format.order 0 0 == some .eq) = true := by decide +kernel

set_option maxHeartbeats 1600000 in
set_option maxRecDepth 100000 in
theorem rpoints_minus (w : World) : Calls Try.prog 17 #[.float .f64 9223372036854775808] w fun r w' => r = .returned (.tuple #[.int .i64 0, .int .i64 0]) ∧ RowKit.Below w.heap.size w w' := by
  have k1 : (FloatKind.f64.format.order 9223372036854775808 0 == some .gt || FloatKind.f64.format.order 9223372036854775808 0 == some .eq) = true := ge0_minus
  have k2 : (FloatKind.f64.format.order 9223372036854775808 4636737291354636288 == some .lt || FloatKind.f64.format.order 9223372036854775808 4636737291354636288 == some .eq) = true := le100_minus
  have c1 : ∀ W : World, (convert 25 2 (.float .f64 9223372036854775808)).run Try.prog W = .ok (.int .i64 0) W := fun W => run_convert_float_int W 25 2 .f64 .i64 _ _ (by kernel_rfl) Try.underlying2 minus_int
  have s1 : ∀ (W : World) ty, (binOp .sub ty (.float .f64 9223372036854775808) (.float .f64 (floatOfInt .f64 0))).run Try.prog W = .ok (.float .f64 9223372036854775808) W := fun W ty => run_float_arith W .sub ty .f64 _ _ _ far_minus.2
  have g0 := minus_gt
  have g3 := minus_eq
  have hmk : ∀ W : World, (Instr.makeSlice 59 (.int .i64 0) (.int .i64 0)).run Try.prog W = .ok (.slice (some ⟨W.heap.size, 0, none⟩) 0 0) (W.alloc (zeroRow 0 2)) := fun W => mk_int64 0 (by omega) W
  generalize 9223372036854775808 = x at *
  go_enter Try.func17, Try.ntmps17
  go_wp2
  go_loop [5, 6] (fun c5 c6 => c5 = .float .f64 x ∧ c6 = .slice (some ⟨w.heap.size, 0, none⟩) 0 0) (fun _ _ => 0)
  case atStart => exact ⟨rfl, rfl⟩
  case round =>
    obtain ⟨rfl, rfl⟩ := hrel
    go_wp2
    go_loop [8, 10] (fun c8 c10 => c8 = .int .i64 0 ∧ c10 = .int .i64 (-1)) (fun _ _ => 0)
    case atStart => exact ⟨rfl, rfl⟩
    case round =>
      obtain ⟨rfl, rfl⟩ := hrel
      go_wp2
      go_ret2
      exact ⟨rfl, ((RowKit.Below.refl _ _).alloc (Nat.le_refl _) _).alloc (by simp) _⟩

set_option maxHeartbeats 1600000 in
theorem rpoints_no (x : Nat) (w : World) (hx : x < 18446744073709551616) (h1 : ¬ x ≤ W100) (h2 : x ≠ 9223372036854775808) :
    Calls Try.prog 17 #[.float .f64 x] w fun r w' => r = .returned (.tuple #[.int .i64 0, .int .i64 51]) ∧ w = w' := by
  by_cases g1 : ge0 x = true
  · have g2 : le100 x = false := by
      rcases guard_no hx h1 h2 with h | h
      · rw [h] at g1; cases g1
      · exact h
    have k1 : (FloatKind.f64.format.order x 0 == some .gt || FloatKind.f64.format.order x 0 == some .eq) = true := g1
    have k2 : (FloatKind.f64.format.order x 4636737291354636288 == some .lt || FloatKind.f64.format.order x 4636737291354636288 == some .eq) = false := g2
    clear g1 g2 h1 h2
    go_enter Try.func17, Try.ntmps17
    go_wp2
    go_ret2
    exact ⟨rfl, rfl⟩
  · have g1 : ge0 x = false := by simpa using g1
    have k1 : (FloatKind.f64.format.order x 0 == some .gt || FloatKind.f64.format.order x 0 == some .eq) = false := g1
    clear g1 h1 h2
    go_enter Try.func17, Try.ntmps17
    go_wp2
    go_ret2
    exact ⟨rfl, rfl⟩

/-- the program's points and the document's -/
theorem both_points (x : Nat) (hx : x < 18446744073709551616) : ∃ p e : Int, (∀ W, Hid (Calls Try.prog 9 #[.float .f64 x] W fun r w' => r = .returned (.tuple #[.int .i64 p, .int .i64 e]) ∧ W = w')) ∧
    (∀ W, Hid (Calls Try.prog 17 #[.float .f64 x] W fun r w' => r = .returned (.tuple #[.int .i64 p, .int .i64 e]) ∧ RowKit.Below W.heap.size W w')) := by
  by_cases h1 : x ≤ W100
  · exact ⟨_, 0, fun W => Lib.hid (points_yes x W (Or.inl h1)), fun W => Lib.hid (rpoints_pos x W h1)⟩
  · by_cases h2 : x = 9223372036854775808
    · have e : pts x = 0 := by unfold pts; rw [if_neg h1]
      refine ⟨0, 0, fun W => Lib.hid ?_, fun W => Lib.hid ?_⟩
      · have := points_yes x W (Or.inr h2)
        rw [e] at this
        exact this
      · rw [h2]; exact rpoints_minus W
    · exact ⟨0, 51, fun W => Lib.hid (points_no x W hx h1 h2), fun W => Lib.hid ((rpoints_no x W hx h1 h2).mono fun _ _ ⟨he, hw⟩ => ⟨he, hw ▸ RowKit.Below.refl _ _⟩)⟩

set_option maxHeartbeats 1600000 in
set_option maxRecDepth 100000 in
theorem pointsLaw_no (x : Nat) (n : Int) (w : World) (hx : x < 18446744073709551616) (hn : n < 0 ∨ 10000 < n) :
    Calls Try.prog 4 #[.int .u64 (x : Int), .int .i64 n] w fun e w' => e = .returned (.bool true) ∧ RowKit.Below w.heap.size w w' := by
  obtain ⟨p, e, P1, P2⟩ := both_points x hx
  have Q : ∀ W, Hid (Calls Try.prog 13 #[.int .i64 n] W fun r w' => r = .returned (.tuple #[.float .f64 0, .int .i64 51]) ∧ W = w') := fun W => Lib.hid (percent_no n W hn)
  have z := zero_eq
  by_cases h1 : n < 0
  · clear hn
    go_enter Try.func4, Try.ntmps4
    go_wp2_with fail
    refine (alive_any _).mono ?_
    rintro _ w1 ⟨rfl, hg1⟩
    have HG1 := Lib.hid hg1
    clear hg1
    go_wp2_with (simp only [f64from])
    refine (P1 _).out.mono ?_
    rintro _ _ ⟨rfl, rfl⟩
    go_wp2_with fail
    refine (P2 _).out.mono ?_
    rintro _ w2 ⟨rfl, hb2⟩
    have HB2 := Lib.hid (HG1.out.below.trans (hb2.mono HG1.out.size))
    clear hb2
    go_wp2_with fail
    refine (Q _).out.mono ?_
    rintro _ _ ⟨rfl, rfl⟩
    go_wp2
    go_ret
    exact ⟨rfl, HB2.out⟩
  · have h2 : 10000 < n := by omega
    clear hn
    go_enter Try.func4, Try.ntmps4
    go_wp2_with fail
    refine (alive_any _).mono ?_
    rintro _ w1 ⟨rfl, hg1⟩
    have HG1 := Lib.hid hg1
    clear hg1
    go_wp2_with (simp only [f64from])
    refine (P1 _).out.mono ?_
    rintro _ _ ⟨rfl, rfl⟩
    go_wp2_with fail
    refine (P2 _).out.mono ?_
    rintro _ w2 ⟨rfl, hb2⟩
    have HB2 := Lib.hid (HG1.out.below.trans (hb2.mono HG1.out.size))
    clear hb2
    go_wp2_with fail
    refine (Q _).out.mono ?_
    rintro _ _ ⟨rfl, rfl⟩
    go_wp2
    go_ret
    exact ⟨rfl, HB2.out⟩

set_option maxHeartbeats 1600000 in
set_option maxRecDepth 100000 in
theorem pointsLaw_yes (x n : Nat) (w : World) (hx : x < 18446744073709551616) (hn : n ≤ 10000) :
    Calls Try.prog 4 #[.int .u64 (x : Int), .int .i64 (n : Int)] w fun e w' => e = .returned (.bool true) ∧ RowKit.Below w.heap.size w w' := by
  obtain ⟨p, e, P1, P2⟩ := both_points x hx
  obtain ⟨r, hr, hr2, hr3⟩ := pc_yes n hn
  have Q : ∀ W, Hid (Calls Try.prog 13 #[.int .i64 (n : Int)] W fun e w' => e = .returned (.tuple #[.float .f64 r, .int .i64 0]) ∧ W = w') := fun W => Lib.hid (percent_yes n r W hn hr)
  have P3 : ∀ W, Hid (Calls Try.prog 9 #[.float .f64 r] W fun e w' => e = .returned (.tuple #[.int .i64 (n : Int), .int .i64 0]) ∧ W = w') := fun W => Lib.hid (by have := points_yes r W (Or.inl hr2); rw [hr3] at this; exact this)
  have d1 : decide ((n : Int) < 0) = false := by simp
  have d2 : decide (10000 < (n : Int)) = false := by simp; omega
  clear hr hr2 hr3
  go_enter Try.func4, Try.ntmps4
  go_wp2_with fail
  refine (alive_any _).mono ?_
  rintro _ w1 ⟨rfl, hg1⟩
  have HG1 := Lib.hid hg1
  clear hg1
  go_wp2_with (simp only [f64from])
  refine (P1 _).out.mono ?_
  rintro _ _ ⟨rfl, rfl⟩
  go_wp2_with fail
  refine (P2 _).out.mono ?_
  rintro _ w2 ⟨rfl, hb2⟩
  have HB2 := Lib.hid (HG1.out.below.trans (hb2.mono HG1.out.size))
  clear hb2
  go_wp2_with fail
  refine (Q _).out.mono ?_
  rintro _ _ ⟨rfl, rfl⟩
  go_wp2_with fail
  refine (P3 _).out.mono ?_
  rintro _ _ ⟨rfl, rfl⟩
  go_wp2
  go_ret
  exact ⟨by simp, HB2.out⟩

theorem ratePoints_walk (a : Int) (ha : (Lit.int .u64 a).wf = true) (n : Int) (_hn : (Lit.int .i64 n).wf = true) (w : World) :
    Calls Try.prog 4 #[.int .u64 a, .int .i64 n] w fun e w' => e = .returned (.bool true) ∧ RowKit.Below w.heap.size w w' := by
  have hb : 0 ≤ a ∧ a < 18446744073709551616 := by
    have e1 : IntKind.u64.min = 0 := by decide
    have e2 : IntKind.u64.max = 18446744073709551615 := by decide
    simp [Lit.wf, e1, e2] at ha
    omega
  obtain ⟨x, rfl⟩ := Int.eq_ofNat_of_zero_le hb.1
  by_cases hn : n < 0 ∨ 10000 < n
  · exact pointsLaw_no x n w (by omega) hn
  · obtain ⟨k, rfl⟩ := Int.eq_ofNat_of_zero_le (show 0 ≤ n by omega)
    exact pointsLaw_yes x k w (by omega) (by omega)
end Go.Proofs.Ytgokihclfdkgeaa
