/- The walk of falseworklaw03.CivilWeeks. -/
import Derived.Test.YtfifollmpohcoaaDoorCivG
namespace Go.Proofs.YtfifollmpohcoaaDoor
open Go.RowKit Go.Sort

theorem first_right (y : Int) (h0 : 1900 ≤ y) (h1 : y ≤ 2299) : rightP y 1 1 := by
  have := lenF_lo y 1 (by omega) (by omega)
  exact ⟨h0, h1, by omega, by omega, by omega, by omega⟩
theorem first_num (y : Int) : numF y 1 1 = nyF y := by unfold numF; simp [monF]

set_option maxHeartbeats 400000 in
theorem weeks_out (y : Int) (w : World) (hL : Lens w) (h : y < 1900 ∨ 2298 < y) : Calls Tryd.prog 9 #[.int .i64 y] w fun e w' => e = .returned (.bool true) ∧ Gr w w' := by
  have HL := Lib.hid hL
  clear hL
  go_enter Tryd.func9, Tryd.ntmps9
  go_wp2_with fail
  refine (alive_any _ HL.out).mono ?_
  rintro e w1 ⟨rfl, hg1⟩
  have HG1 := Lib.hid hg1
  clear hg1
  rcases h with h | h
  · have d0 : decide (y < 1900) = true := by simp only [decide_eq_true_eq]; exact h
    go_wp2
    go_ret
    exact ⟨rfl, HG1.out⟩
  · have d0 : decide (y < 1900) = false := by simp only [decide_eq_false_iff_not]; omega
    have d1 : decide (2298 < y) = true := by simp only [decide_eq_true_eq]; exact h
    go_wp2
    go_ret
    exact ⟨rfl, HG1.out⟩

set_option maxHeartbeats 800000 in
theorem weeks_in (y : Int) (lp : Bool) (w : World) (hL : Lens w) (h0 : 1900 ≤ y) (h1 : y ≤ 2298) (hlp : decide (leapP y) = lp) : Calls Tryd.prog 9 #[.int .i64 y] w fun e w' => e = .returned (.bool true) ∧ Gr w w' := by
  have hI : I y := ⟨by omega, by omega⟩
  have HLP := Lib.hid (show ylF y = if lp then 366 else 365 by unfold ylF; subst hlp; simp)
  have A : ∀ W, Lens W → Hid (Calls Tryd.prog 11 #[.agg #[.int .i64 y, .int .i64 1, .int .i64 1]] W fun e w' => e = .returned (.tuple #[.int .i64 (nyF y), .int .i64 0]) ∧ Gr W w') := fun W h => Lib.hid (by have := number_yes y 1 1 W h (first_right y h0 (by omega)); rwa [first_num] at this)
  have B : ∀ W, Lens W → Hid (Calls Tryd.prog 11 #[.agg #[.int .i64 (y + 1), .int .i64 1, .int .i64 1]] W fun e w' => e = .returned (.tuple #[.int .i64 (nyF y + ylF y), .int .i64 0]) ∧ Gr W w') := fun W h => Lib.hid (by have := number_yes (y + 1) 1 1 W h (first_right (y + 1) (by omega) (by omega)); rwa [first_num, ny_next] at this)
  have C : ∀ W, Hid (Calls Tryd.prog 16 #[.int .i64 y] W fun e w' => e = .returned (.bool lp) ∧ W = w') := fun W => Lib.hid (by have := leap_any y W hI; rwa [hlp] at this)
  obtain ⟨n0, n1⟩ := ny_bd y h0 (by omega)
  have yl0 := ylF_lo y
  have yl1 := ylF_hi y
  have D : ∀ W, Hid (Calls Tryd.prog 23 #[.int .i64 (nyF y)] W fun e w' => e = .returned (.int .i64 (nyF y % 7)) ∧ W = w') := fun W => week_any _ W ⟨by omega, by omega⟩
  have E : ∀ W, Hid (Calls Tryd.prog 23 #[.int .i64 (nyF y + ylF y)] W fun e w' => e = .returned (.int .i64 ((nyF y % 7 + (ylF y - 364)) % 7)) ∧ W = w') := fun W => Lib.hid (by have := week_any (nyF y + ylF y) W ⟨by omega, by omega⟩; rwa [show (nyF y + ylF y) % 7 = (nyF y % 7 + (ylF y - 364)) % 7 by omega] at this)
  have F : ∀ W, Hid (Calls Tryd.prog 23 #[.int .i64 (nyF y + 146097)] W fun e w' => e = .returned (.int .i64 (nyF y % 7)) ∧ W = w') := fun W => Lib.hid (by have := week_any (nyF y + 146097) W ⟨by omega, by omega⟩; rwa [show (nyF y + 146097) % 7 = nyF y % 7 by omega] at this)
  have HL := Lib.hid hL
  have M12 := Lib.hid (mon12 y)
  have v0 : 0 ≤ nyF y % 7 ∧ nyF y % 7 < 7 := by omega
  clear hL hlp
  have mixed := mixedT
  generalize hLv : ylF y = K at *
  generalize nyF y = N at *
  generalize N % 7 = v at *
  generalize hu0 : (v + (K - 364)) % 7 = u at *
  have HU := Lib.hid hu0
  clear hu0
  go_enter Tryd.func9, Tryd.ntmps9
  go_wp2_with fail
  refine (alive_any _ HL.out).mono ?_
  rintro e w1 ⟨rfl, hg1⟩
  have HG1 := Lib.hid hg1
  clear hg1
  go_wp2_with fail
  refine (A _ (HL.out.gr HG1.out)).out.mono ?_
  rintro e w2 ⟨rfl, hg2⟩
  have HG2 := Lib.hid (HG1.out.trans hg2)
  clear hg2 HG1 A
  go_wp2_with fail
  refine (B _ (HL.out.gr HG2.out)).out.mono ?_
  rintro e w3 ⟨rfl, hg3⟩
  have HG3 := Lib.hid (HG2.out.trans hg3)
  clear hg3 HG2 B
  go_wp2_with fail
  refine (C _).out.mono ?_
  rintro e w4 ⟨rfl, rfl⟩
  clear C
  have HL3 := Lib.hid (HL.out.gr HG3.out)
  have hK := HLP.out
  clear HLP
  cases lp
  · have hK2 : K = 365 := by simpa using hK
    clear hK
    subst hK2
    have z1 : N + 365 - N = 365 := by omega
    have z2 : (v + 1) % 7 = u := by have := HU.out; omega
    go_wp2
    go_loopg [8, 9] 12 (fun g c8 c9 wr => ∃ k : Nat, c8 = .int .i64 (monF y k) ∧ c9 = .int .i64 ((k : Int) + 1) ∧ k ≤ 12 ∧ g + k = 12 ∧ wr = w3)
    case atStart => exact ⟨0, by simp [monF], by simp, by omega, by omega, rfl⟩
    case round =>
      obtain ⟨k, rfl, rfl, hk, hg, rfl⟩ := hrel
      by_cases hlt : k < 12
      · have m0 := mon_nn y k
        have m1 := mon_le y k (by omega)
        have m2 := ylF_hi y
        have HM := Lib.hid (mon_next y k)
        have l0 := lenF_nn y ((k : Int) + 1)
        have l1 := lenF_hi y ((k : Int) + 1)
        have C : ∀ W, Lens W → Hid (Calls Tryd.prog 18 #[.int .i64 y, .int .i64 ((k : Int) + 1)] W fun e w' => e = .returned (.int .i64 (lenF y ((k : Int) + 1))) ∧ W = w') := fun W h => length_any y _ W hI h
        have m3 : monF y k ≤ 366 := by omega
        clear m1 m2
        generalize lenF y ((k : Int) + 1) = L at *
        generalize monF y k = M at *
        go_wp2_with fail
        refine (C _ HL3.out).out.mono ?_
        rintro e w5 ⟨rfl, rfl⟩
        go_wp2
        go_roundg (gk - 1)
        case measure => omega
        case rel => exact ⟨k + 1, by rw [HM.out], by go_num, by omega, by omega, rfl⟩
      · obtain rfl : k = 12 := by omega
        rw [M12.out]
        go_wp2_with fail
        refine (E _).out.mono ?_
        rintro e w5 ⟨rfl, rfl⟩
        go_wp2_with fail
        refine (D _).out.mono ?_
        rintro e w5 ⟨rfl, rfl⟩
        go_wp2_with fail
        refine (F _).out.mono ?_
        rintro e w5 ⟨rfl, rfl⟩
        go_wp2_with fail
        refine (D _).out.mono ?_
        rintro e w5 ⟨rfl, rfl⟩
        go_wp2
        go_ret
        exact ⟨rfl, HG3.out⟩
  · have hK2 : K = 366 := by simpa using hK
    clear hK
    subst hK2
    have z1 : N + 366 - N = 366 := by omega
    have z2 : (v + 2) % 7 = u := by have := HU.out; omega
    go_wp2
    go_loopg [8, 9] 12 (fun g c8 c9 wr => ∃ k : Nat, c8 = .int .i64 (monF y k) ∧ c9 = .int .i64 ((k : Int) + 1) ∧ k ≤ 12 ∧ g + k = 12 ∧ wr = w3)
    case atStart => exact ⟨0, by simp [monF], by simp, by omega, by omega, rfl⟩
    case round =>
      obtain ⟨k, rfl, rfl, hk, hg, rfl⟩ := hrel
      by_cases hlt : k < 12
      · have m0 := mon_nn y k
        have m1 := mon_le y k (by omega)
        have m2 := ylF_hi y
        have HM := Lib.hid (mon_next y k)
        have l0 := lenF_nn y ((k : Int) + 1)
        have l1 := lenF_hi y ((k : Int) + 1)
        have C : ∀ W, Lens W → Hid (Calls Tryd.prog 18 #[.int .i64 y, .int .i64 ((k : Int) + 1)] W fun e w' => e = .returned (.int .i64 (lenF y ((k : Int) + 1))) ∧ W = w') := fun W h => length_any y _ W hI h
        have m3 : monF y k ≤ 366 := by omega
        clear m1 m2
        generalize lenF y ((k : Int) + 1) = L at *
        generalize monF y k = M at *
        go_wp2_with fail
        refine (C _ HL3.out).out.mono ?_
        rintro e w5 ⟨rfl, rfl⟩
        go_wp2
        go_roundg (gk - 1)
        case measure => omega
        case rel => exact ⟨k + 1, by rw [HM.out], by go_num, by omega, by omega, rfl⟩
      · obtain rfl : k = 12 := by omega
        rw [M12.out]
        go_wp2_with fail
        refine (E _).out.mono ?_
        rintro e w5 ⟨rfl, rfl⟩
        go_wp2_with fail
        refine (D _).out.mono ?_
        rintro e w5 ⟨rfl, rfl⟩
        go_wp2_with fail
        refine (F _).out.mono ?_
        rintro e w5 ⟨rfl, rfl⟩
        go_wp2_with fail
        refine (D _).out.mono ?_
        rintro e w5 ⟨rfl, rfl⟩
        go_wp2
        go_ret
        exact ⟨rfl, HG3.out⟩

theorem civilWeeks_walk (y : Int) (w : World) (_h : I y) (hL : Lens w) : Calls Tryd.prog 9 #[.int .i64 y] w fun e w' => e = .returned (.bool true) ∧ Below w.heap.size w w' := by
  by_cases h : y < 1900 ∨ 2298 < y
  · exact (weeks_out y w hL h).mono fun e w' ⟨he, hg⟩ => ⟨he, hg.below⟩
  · exact (weeks_in y _ w hL (by omega) (by omega) rfl).mono fun e w' ⟨he, hg⟩ => ⟨he, hg.below⟩
end Go.Proofs.YtfifollmpohcoaaDoor
