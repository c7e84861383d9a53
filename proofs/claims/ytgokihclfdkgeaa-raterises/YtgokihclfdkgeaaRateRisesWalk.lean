/- The walk of falseworklaw05.RateRises. -/
import Derived.Test.YtgokihclfdkgeaaRtN
import Derived.Test.YtgokihclfdkgeaaRtS
import Derived.Test.YtgokihclfdkgeaaRtO
namespace Go.Proofs.Ytgokihclfdkgeaa
open Go.RowKit Go.Sort

theorem no_guard {a : Nat} (hl : a < 18446744073709551616) (h : ¬ okW a) : ge0 a = false ∨ (ge0 a = true ∧ le100 a = false) := by
  have h1 : ¬ a ≤ W100 := fun k => h (Or.inl k)
  have h2 : a ≠ 9223372036854775808 := fun k => h (Or.inr k)
  cases hg : ge0 a
  · exact Or.inl rfl
  · rcases guard_no hl h1 h2 with k | k
    · rw [hg] at k; cases k
    · exact Or.inr ⟨rfl, k⟩
theorem yes_guard {a : Nat} (h : okW a) : ge0 a = true ∧ le100 a = true := by
  rcases h with h | h
  · exact ⟨ge0_pos (W_inf h), by rw [le100_pos (W_inf h)]; simpa using h⟩
  · rw [h]; exact ⟨ge0_minus, le100_minus⟩

set_option maxHeartbeats 1600000 in
set_option maxRecDepth 100000 in
theorem rises_no (a b : Nat) (w : World) (ha : a < 18446744073709551616) (hb : b < 18446744073709551616) (h : ¬ okW a ∨ ¬ okW b) :
    Calls Try.prog 7 #[.float .f64 a, .float .f64 b] w fun e w' => e = .returned (.bool true) ∧ RowKit.Below w.heap.size w w' := by
  have Q : ∀ x : Nat, x < 18446744073709551616 → ∃ p e : Int, ((okW x → e = 0) ∧ (¬ okW x → e = 51)) ∧ ∀ W, Hid (Calls Try.prog 9 #[.float .f64 x] W fun r w' => r = .returned (.tuple #[.int .i64 p, .int .i64 e]) ∧ W = w') := by
    intro x hx
    by_cases k : okW x
    · exact ⟨_, 0, ⟨fun _ => rfl, fun q => absurd k q⟩, fun W => Lib.hid (points_yes x W k)⟩
    · exact ⟨0, 51, ⟨fun q => absurd q k, fun _ => rfl⟩, fun W => Lib.hid (points_no x W hx (fun q => k (Or.inl q)) (fun q => k (Or.inr q)))⟩
  obtain ⟨x, e, he, P1⟩ := Q a ha
  obtain ⟨y, f, hf, P2⟩ := Q b hb
  clear Q
  by_cases ka : okW a
  · have kb : ¬ okW b := by
      rcases h with h | h
      · exact absurd ka h
      · exact h
    obtain rfl := he.1 ka
    obtain rfl := hf.2 kb
    clear he hf
    obtain ⟨g1, g2⟩ := yes_guard ka
    have k1 : (FloatKind.f64.format.order a 0 == some .gt || FloatKind.f64.format.order a 0 == some .eq) = true := g1
    have k2 : (FloatKind.f64.format.order a 4636737291354636288 == some .lt || FloatKind.f64.format.order a 4636737291354636288 == some .eq) = true := g2
    have hg := no_guard hb kb
    clear h ka kb g1 g2
    rcases hg with q | ⟨q1, q2⟩
    · have k3 : (FloatKind.f64.format.order b 0 == some .gt || FloatKind.f64.format.order b 0 == some .eq) = false := q
      clear q
      go_enter Try.func7, Try.ntmps7
      go_wp2_with fail
      refine (alive_any _).mono ?_
      rintro _ w1 ⟨rfl, hg1⟩
      have HG1 := Lib.hid hg1
      clear hg1
      go_wp2_with fail
      refine (P1 _).out.mono ?_
      rintro _ _ ⟨rfl, rfl⟩
      go_wp2_with fail
      refine (P2 _).out.mono ?_
      rintro _ _ ⟨rfl, rfl⟩
      go_wp2
      go_ret
      exact ⟨rfl, HG1.out.below⟩
    · have k3 : (FloatKind.f64.format.order b 0 == some .gt || FloatKind.f64.format.order b 0 == some .eq) = true := q1
      have k4 : (FloatKind.f64.format.order b 4636737291354636288 == some .lt || FloatKind.f64.format.order b 4636737291354636288 == some .eq) = false := q2
      clear q1 q2
      go_enter Try.func7, Try.ntmps7
      go_wp2_with fail
      refine (alive_any _).mono ?_
      rintro _ w1 ⟨rfl, hg1⟩
      have HG1 := Lib.hid hg1
      clear hg1
      go_wp2_with fail
      refine (P1 _).out.mono ?_
      rintro _ _ ⟨rfl, rfl⟩
      go_wp2_with fail
      refine (P2 _).out.mono ?_
      rintro _ _ ⟨rfl, rfl⟩
      go_wp2
      go_ret
      exact ⟨rfl, HG1.out.below⟩
  · obtain rfl := he.2 ka
    have hg := no_guard ha ka
    clear h ka hf he
    rcases hg with q | ⟨q1, q2⟩
    · have k3 : (FloatKind.f64.format.order a 0 == some .gt || FloatKind.f64.format.order a 0 == some .eq) = false := q
      clear q
      go_enter Try.func7, Try.ntmps7
      go_wp2_with fail
      refine (alive_any _).mono ?_
      rintro _ w1 ⟨rfl, hg1⟩
      have HG1 := Lib.hid hg1
      clear hg1
      go_wp2_with fail
      refine (P1 _).out.mono ?_
      rintro _ _ ⟨rfl, rfl⟩
      go_wp2_with fail
      refine (P2 _).out.mono ?_
      rintro _ _ ⟨rfl, rfl⟩
      go_wp2
      go_ret
      exact ⟨rfl, HG1.out.below⟩
    · have k3 : (FloatKind.f64.format.order a 0 == some .gt || FloatKind.f64.format.order a 0 == some .eq) = true := q1
      have k4 : (FloatKind.f64.format.order a 4636737291354636288 == some .lt || FloatKind.f64.format.order a 4636737291354636288 == some .eq) = false := q2
      clear q1 q2
      go_enter Try.func7, Try.ntmps7
      go_wp2_with fail
      refine (alive_any _).mono ?_
      rintro _ w1 ⟨rfl, hg1⟩
      have HG1 := Lib.hid hg1
      clear hg1
      go_wp2_with fail
      refine (P1 _).out.mono ?_
      rintro _ _ ⟨rfl, rfl⟩
      go_wp2_with fail
      refine (P2 _).out.mono ?_
      rintro _ _ ⟨rfl, rfl⟩
      go_wp2
      go_ret
      exact ⟨rfl, HG1.out.below⟩

set_option maxHeartbeats 1600000 in
set_option maxRecDepth 100000 in
/-- behind the points: the two orders, and how far it is -/
theorem rises_yes (a b : Nat) (w : World) (ka : okW a) (kb : okW b) :
    Calls Try.prog 7 #[.float .f64 a, .float .f64 b] w fun e w' => e = .returned (.bool true) ∧ RowKit.Below w.heap.size w w' := by
  have P1 : ∀ W, Hid (Calls Try.prog 9 #[.float .f64 a] W fun r w' => r = .returned (.tuple #[.int .i64 ((pts a : Nat) : Int), .int .i64 0]) ∧ W = w') := fun W => Lib.hid (points_yes a W ka)
  have P2 : ∀ W, Hid (Calls Try.prog 9 #[.float .f64 b] W fun r w' => r = .returned (.tuple #[.int .i64 ((pts b : Nat) : Int), .int .i64 0]) ∧ W = w') := fun W => Lib.hid (points_yes b W kb)
  obtain ⟨r, t, s, h1, h2, h3, h4, h5, h6⟩ := far_any a ka
  have q1 : ∀ (W : World) ty, (binOp .mul ty (.float .f64 4636737291354636288) (.float .f64 a)).run Try.prog W = .ok (.float .f64 r) W := fun W ty => run_float_arith W .mul ty .f64 _ _ r h1
  have q2 : ∀ (W : World) ty, (binOp .sub ty (.float .f64 r) (.float .f64 (floatOfInt .f64 ((pts a : Nat) : Int)))).run Try.prog W = .ok (.float .f64 t) W := fun W ty => run_float_arith W .sub ty .f64 _ _ t h2
  have q3 : ∀ W, Hid (Calls Try.prog 27 #[.float .f64 t] W fun e w' => e = .returned (.float .f64 s) ∧ W = w') := fun W => Lib.hid (by rw [h4]; exact abs_any t W h3)
  have q4 := le_five h5 h6
  have hr := rise a b ka kb
  clear h1 h2 h3 h4 h5 h6 ka kb
  generalize pts a = x at *
  generalize pts b = y at *
  rcases hr with ⟨o, l⟩ | ⟨o, l⟩ | ⟨o, l⟩
  · have l1 : decide (x ≤ y) = true := by simpa using l
    clear l
    go_enter Try.func7, Try.ntmps7
    go_wp2_with fail
    refine (alive_any _).mono ?_
    rintro _ w1 ⟨rfl, hg1⟩
    have HG1 := Lib.hid hg1
    clear hg1
    go_wp2_with fail
    refine (P1 _).out.mono ?_
    rintro _ _ ⟨rfl, rfl⟩
    go_wp2_with fail
    refine (P2 _).out.mono ?_
    rintro _ _ ⟨rfl, rfl⟩
    go_wp2_with fail
    refine (q3 _).out.mono ?_
    rintro _ _ ⟨rfl, rfl⟩
    go_wp2
    go_ret
    exact ⟨rfl, HG1.out.below⟩
  · have l1 : decide (y ≤ x) = true := by simpa using l
    clear l
    go_enter Try.func7, Try.ntmps7
    go_wp2_with fail
    refine (alive_any _).mono ?_
    rintro _ w1 ⟨rfl, hg1⟩
    have HG1 := Lib.hid hg1
    clear hg1
    go_wp2_with fail
    refine (P1 _).out.mono ?_
    rintro _ _ ⟨rfl, rfl⟩
    go_wp2_with fail
    refine (P2 _).out.mono ?_
    rintro _ _ ⟨rfl, rfl⟩
    go_wp2_with fail
    refine (q3 _).out.mono ?_
    rintro _ _ ⟨rfl, rfl⟩
    go_wp2
    go_ret
    exact ⟨rfl, HG1.out.below⟩
  · subst l
    go_enter Try.func7, Try.ntmps7
    go_wp2_with fail
    refine (alive_any _).mono ?_
    rintro _ w1 ⟨rfl, hg1⟩
    have HG1 := Lib.hid hg1
    clear hg1
    go_wp2_with fail
    refine (P1 _).out.mono ?_
    rintro _ _ ⟨rfl, rfl⟩
    go_wp2_with fail
    refine (P2 _).out.mono ?_
    rintro _ _ ⟨rfl, rfl⟩
    go_wp2_with fail
    refine (q3 _).out.mono ?_
    rintro _ _ ⟨rfl, rfl⟩
    go_wp2
    go_ret
    exact ⟨rfl, HG1.out.below⟩

theorem rateRises_walk (a : Nat) (ha : (Lit.float .f64 a).wf = true) (b : Nat) (hb : (Lit.float .f64 b).wf = true) (w : World) :
    Calls Try.prog 7 #[.float .f64 a, .float .f64 b] w fun e w' => e = .returned (.bool true) ∧ RowKit.Below w.heap.size w w' := by
  have la : a < 18446744073709551616 := by simpa [Lit.wf] using ha
  have lb : b < 18446744073709551616 := by simpa [Lit.wf] using hb
  by_cases ka : okW a
  · by_cases kb : okW b
    · exact rises_yes a b w ka kb
    · exact rises_no a b w la lb (Or.inr kb)
  · exact rises_no a b w la lb (Or.inl ka)
end Go.Proofs.Ytgokihclfdkgeaa
