/- The walk of falseworklaw05.RateNames. -/
import Derived.Test.YtgokihclfdkgeaaRtN
import Derived.Test.YtgokihclfdkgeaaRtC
namespace Go.Proofs.Ytgokihclfdkgeaa
open Go.RowKit Go.Sort

set_option maxHeartbeats 800000 in
theorem copysign_m (w : World) : Calls Try.prog 10 #[.float .f64 0, .float .f64 13830554455654793216] w fun e w' => e = .returned (.float .f64 9223372036854775808) ∧ w = w' := by
  have b1 : bits .andNot .u64 0 9223372036854775808 = 0 := by decide +kernel
  have b2 : bits .and .u64 13830554455654793216 9223372036854775808 = 9223372036854775808 := by decide +kernel
  have b3 : bits .or .u64 0 9223372036854775808 = 9223372036854775808 := by decide +kernel
  have f : ∀ W, (callFunc 16 #[.int .u64 9223372036854775808]).run Try.prog W = .ok (.value (.float .f64 9223372036854775808)) W := fun W => f64from 9223372036854775808 W
  go_enter Try.func10, Try.ntmps10
  go_wp2_with (first | simp only [f64bits] | simp only [f])
  go_ret
  exact ⟨rfl, rfl⟩
set_option maxHeartbeats 800000 in
theorem nan_any (w : World) : Calls Try.prog 11 #[] w fun e w' => e = .returned (.float .f64 9221120237041090561) ∧ w = w' := by
  have f : ∀ W, (callFunc 16 #[.int .u64 9221120237041090561]).run Try.prog W = .ok (.value (.float .f64 9221120237041090561)) W := fun W => f64from 9221120237041090561 W
  go_enter Try.func11, Try.ntmps11
  go_wp2_with (simp only [f])
  go_ret
  exact ⟨rfl, rfl⟩
set_option maxHeartbeats 800000 in
theorem inf_up (w : World) : Calls Try.prog 12 #[.int .i64 1] w fun e w' => e = .returned (.float .f64 9218868437227405312) ∧ w = w' := by
  have f : ∀ W, (callFunc 16 #[.int .u64 9218868437227405312]).run Try.prog W = .ok (.value (.float .f64 9218868437227405312)) W := fun W => f64from 9218868437227405312 W
  go_enter Try.func12, Try.ntmps12
  go_wp2_with (simp only [f])
  go_ret
  exact ⟨rfl, rfl⟩
set_option maxHeartbeats 800000 in
theorem inf_down (w : World) : Calls Try.prog 12 #[.int .i64 (-1)] w fun e w' => e = .returned (.float .f64 18442240474082181120) ∧ w = w' := by
  have f : ∀ W, (callFunc 16 #[.int .u64 18442240474082181120]).run Try.prog W = .ok (.value (.float .f64 18442240474082181120)) W := fun W => f64from 18442240474082181120 W
  go_enter Try.func12, Try.ntmps12
  go_wp2_with (simp only [f])
  go_ret
  exact ⟨rfl, rfl⟩

set_option maxHeartbeats 1600000 in
set_option maxRecDepth 100000 in
theorem rateNames_walk (w : World) : Calls Try.prog 3 #[] w fun e w' => e = .returned (.bool true) ∧ RowKit.Below w.heap.size w w' := by
  have P0 : ∀ W, Hid (Calls Try.prog 9 #[.float .f64 9223372036854775808] W fun r w' => r = .returned (.tuple #[.int .i64 0, .int .i64 0]) ∧ W = w') := fun W => Lib.hid (by have := points_yes 9223372036854775808 W (Or.inr rfl); rw [show pts 9223372036854775808 = 0 from by decide +kernel] at this; exact this)
  have PN : ∀ x W, (x < 18446744073709551616 ∧ ¬ x ≤ W100 ∧ x ≠ 9223372036854775808) → Hid (Calls Try.prog 9 #[.float .f64 x] W fun r w' => r = .returned (.tuple #[.int .i64 0, .int .i64 51]) ∧ W = w') := fun x W h => Lib.hid (points_no x W h.1 h.2.1 h.2.2)
  have R0 : ∀ W, Hid (Calls Try.prog 14 #[.agg #[.int .i64 0, .int .i64 0, .int .i64 0], .slice none 0 0, .int .i64 5] W fun r w' => r = .returned (.tuple #[.int .i64 0, .int .i64 52]) ∧ Gr W w') := fun W => Lib.hid (by
    have := rate_any 0 0 0 none [] 0 5 W (Or.inl rfl) (by decide)
    rw [show rtV 0 0 0 [] 5 = 0 from by decide, show rtE 0 0 0 [] 5 = 52 from by decide] at this
    exact this)
  go_enter Try.func3, Try.ntmps3
  go_wp2_with fail
  refine (copysign_m _).mono ?_
  rintro _ _ ⟨rfl, rfl⟩
  go_wp2_with fail
  refine (P0 _).out.mono ?_
  rintro _ _ ⟨rfl, rfl⟩
  go_wp2_with fail
  refine (nan_any _).mono ?_
  rintro _ _ ⟨rfl, rfl⟩
  go_wp2_with fail
  refine (PN _ _ (by decide)).out.mono ?_
  rintro _ _ ⟨rfl, rfl⟩
  go_wp2_with fail
  refine (inf_up _).mono ?_
  rintro _ _ ⟨rfl, rfl⟩
  go_wp2_with fail
  refine (PN _ _ (by decide)).out.mono ?_
  rintro _ _ ⟨rfl, rfl⟩
  go_wp2_with fail
  refine (inf_down _).mono ?_
  rintro _ _ ⟨rfl, rfl⟩
  go_wp2_with fail
  refine (PN _ _ (by decide)).out.mono ?_
  rintro _ _ ⟨rfl, rfl⟩
  go_wp2_with fail
  refine (PN _ _ (by decide)).out.mono ?_
  rintro _ _ ⟨rfl, rfl⟩
  go_wp2_with fail
  refine (percent_no 10001 _ (by decide)).mono ?_
  rintro _ _ ⟨rfl, rfl⟩
  go_wp2_with fail
  refine (R0 _).out.mono ?_
  rintro _ w1 ⟨rfl, hg1⟩
  have HG1 := Lib.hid hg1
  clear hg1 R0 PN P0
  go_wp2_with fail
  refine (alive_any _).mono ?_
  rintro _ w2 ⟨rfl, hg2⟩
  have HG2 := Lib.hid (HG1.out.trans hg2)
  clear hg2
  go_wp2
  go_ret
  exact ⟨rfl, HG2.out.below⟩
end Go.Proofs.Ytgokihclfdkgeaa
