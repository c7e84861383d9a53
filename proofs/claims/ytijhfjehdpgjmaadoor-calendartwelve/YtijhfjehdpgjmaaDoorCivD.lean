/- Of, of the program and of the document's answer. -/
import Derived.Test.YtijhfjehdpgjmaaDoorCivC
namespace Go.Proofs.YtijhfjehdpgjmaaDoor
open Go.RowKit Go.Sort

theorem ny_le366 (y : Int) (h : 1900 ≤ y) : nyF y ≤ 366 * (y - 1900) := by
  have key : ∀ k : Nat, nyF (1900 + (k : Int)) ≤ 366 * (k : Int) := by
    intro k
    induction k with
    | zero => simp [ny_first]
    | succ k ih =>
      have := ny_next (1900 + (k : Int)); have := ylF_hi (1900 + (k : Int))
      rw [show (1900 : Int) + ((k + 1 : Nat) : Int) = 1900 + (k : Int) + 1 by omega]; omega
  have := key (y - 1900).toNat
  rw [show (1900 : Int) + (((y - 1900).toNat : Nat) : Int) = y by omega] at this
  omega
theorem ny_up (a b : Int) (h : a ≤ b) : nyF b ≤ nyF a + 366 * (b - a) := by
  have key : ∀ k : Nat, nyF (a + (k : Int)) ≤ nyF a + 366 * (k : Int) := by
    intro k
    induction k with
    | zero => simp
    | succ k ih =>
      have := ny_next (a + (k : Int)); have := ylF_hi (a + (k : Int))
      rw [show a + ((k + 1 : Nat) : Int) = a + (k : Int) + 1 by omega]; omega
  have := key (b - a).toNat
  rw [show a + (((b - a).toNat : Nat) : Int) = b by omega] at this
  omega
/-- the year that is guessed, or the next one -/
theorem guess (n : Int) (h0 : 0 ≤ n) (h1 : n < 146097) : nyF (1900 + n / 366) ≤ n ∧ n < nyF (1900 + n / 366 + 2) := by
  have a := ny_le366 (1900 + n / 366) (by omega)
  refine ⟨by omega, ?_⟩
  by_cases c : 1900 + n / 366 + 2 ≤ 2300
  · have b := ny_up (1900 + n / 366 + 2) 2300 c
    rw [ny_last] at b
    omega
  · have b := ny_mono 2300 (1900 + n / 366 + 2) (by omega)
    rw [ny_last] at b
    omega

set_option maxHeartbeats 400000 in
theorem yearOf_any (n : Int) (w : World) (h0 : 0 ≤ n) (h1 : n < 146097) : Calls Tryd.prog 42 #[.int .i64 n] w fun e w' => (∃ Y, 1900 ≤ Y ∧ Y ≤ 2299 ∧ nyF Y ≤ n ∧ n < nyF (Y + 1) ∧ e = .returned (.int .i64 Y)) ∧ w = w' := by
  obtain ⟨g0, g1⟩ := guess n h0 h1
  have e1 : n.tdiv 366 = n / 366 := Int.tdiv_eq_ediv_of_nonneg h0
  obtain ⟨q, hq⟩ : ∃ q, q = n / 366 := ⟨_, rfl⟩
  have q0 : 0 ≤ q := by omega
  have q1 : q ≤ 399 := by omega
  rw [← hq] at g0 g1 e1
  clear hq
  have C : ∀ W, Hid (Calls Tryd.prog 40 #[.int .i64 (1900 + q + 1)] W fun e w' => e = .returned (.int .i64 (nyF (1900 + q + 1))) ∧ W = w') := fun W => ny_any _ W (by omega) (by omega)
  have HG := Lib.hid (show nyF (1900 + q) ≤ n ∧ n < nyF (1900 + q + 2) from ⟨g0, g1⟩)
  have HT := Lib.hid (show nyF (1900 + q + 1) ≤ n → 1900 + q + 1 ≤ 2299 by
    intro h; have := ny_mono 2300 (1900 + q + 1); rw [ny_last] at this; omega)
  clear g0 g1
  go_enter Tryd.func42, Tryd.ntmps42
  go_wp2_with fail
  refine (C _).out.mono ?_
  rintro e w1 ⟨rfl, rfl⟩
  clear C
  generalize hz : nyF (1900 + q + 1) = z at *
  have HZ := Lib.hid hz
  clear hz
  by_cases hc : z ≤ n
  · go_wp2
    go_ret
    exact ⟨⟨1900 + q + 1, by omega, HT.out hc, by rw [HZ.out]; exact hc, by rw [show 1900 + q + 1 + 1 = 1900 + q + 2 by omega]; exact HG.out.2, rfl⟩, rfl⟩
  · go_wp2
    go_ret
    exact ⟨⟨1900 + q, by omega, by omega, HG.out.1, by rw [HZ.out]; omega, rfl⟩, rfl⟩

/-- what Of answers -/
def OfYes (n : Int) (w : World) (e : Ending) (w' : World) : Prop := (∃ y m d, rightP y m d ∧ numF y m d = n ∧ e = .returned (.tuple #[.agg #[.int .i64 y, .int .i64 m, .int .i64 d], .int .i64 0])) ∧ Gr w w'

set_option maxHeartbeats 800000 in
theorem of_yes (n : Int) (w : World) (hL : Lens w) (h0 : 0 ≤ n) (h1 : n < 146097) : Calls Tryd.prog 39 #[.int .i64 n] w (OfYes n w) := by
  have A : ∀ W, Hid (Calls Tryd.prog 40 #[.int .i64 2300] W fun e w' => e = .returned (.int .i64 146097) ∧ W = w') := fun W => Lib.hid (by have := ny_any 2300 W (by omega) (by omega); rwa [ny_last] at this)
  have B : ∀ W, Hid (Calls Tryd.prog 42 #[.int .i64 n] W fun e w' => (∃ Y, 1900 ≤ Y ∧ Y ≤ 2299 ∧ nyF Y ≤ n ∧ n < nyF (Y + 1) ∧ e = .returned (.int .i64 Y)) ∧ W = w') := fun W => yearOf_any n W h0 h1
  have HL := Lib.hid hL
  clear hL
  have d0 : decide (n < 0) = false := by simp only [decide_eq_false_iff_not]; omega
  have d1 : decide (146097 ≤ n) = false := by simp only [decide_eq_false_iff_not]; omega
  go_enter Tryd.func39, Tryd.ntmps39
  go_wp2_with fail
  refine (A _).out.mono ?_
  rintro e w1 ⟨rfl, rfl⟩
  go_wp2_with fail
  refine (B _).out.mono ?_
  rintro e w1 ⟨⟨Y, y0, y1, y2, y3, rfl⟩, rfl⟩
  have C : ∀ W, Hid (Calls Tryd.prog 40 #[.int .i64 Y] W fun e w' => e = .returned (.int .i64 (nyF Y)) ∧ W = w') := fun W => ny_any _ W (by omega) (by omega)
  rw [ny_next] at y3
  obtain ⟨y4, _⟩ := ny_bd Y (by omega) (by omega)
  have hy : I Y := ⟨by omega, by omega⟩
  have yl := ylF_hi Y
  clear A B
  go_wp2_with fail
  refine (C _).out.mono ?_
  rintro e w1 ⟨rfl, rfl⟩
  clear C
  have HQ : ∀ m d, Hid (numF Y m d = nyF Y + monF Y (m - 1).toNat + d - 1) := fun m d => Lib.hid rfl
  generalize nyF Y = N at *
  go_wp2
  go_loopg [5, 6] 12 (fun g c5 c6 wr => ∃ k : Nat, c5 = .int .i64 ((k : Int) + 1) ∧ c6 = .int .i64 (n - N - monF Y k) ∧ k ≤ 11 ∧ g + k = 12 ∧ 0 ≤ n - N - monF Y k ∧ wr = w.alloc (Obj.cells #[Value.int IntKind.i64 0, Value.int IntKind.i64 0, Value.int IntKind.i64 0] 32))
  case atStart => exact ⟨0, by simp, by simp [monF], by omega, by omega, by simp [monF]; omega, rfl⟩
  case round =>
    obtain ⟨k, rfl, rfl, hk, hg, hr, rfl⟩ := hrel
    have HLr := Lib.hid (HL.out.gr ((Gr.refl _).alloc (Obj.cells #[Value.int IntKind.i64 0, Value.int IntKind.i64 0, Value.int IntKind.i64 0] 32)))
    have m0 := mon_nn Y k
    have HM := Lib.hid (mon_next Y k)
    have l0 := lenF_nn Y ((k : Int) + 1)
    have l1 := lenF_hi Y ((k : Int) + 1)
    have HK := Lib.hid (show lenF Y ((k : Int) + 1) ≤ n - N - monF Y k → k + 1 ≤ 11 by
      intro h
      by_cases c : k = 11
      · subst c
        have a := mon_next Y 11
        rw [mon12] at a
        omega
      · omega)
    have HR := Lib.hid (show n - N - monF Y k < lenF Y ((k : Int) + 1) → rightP Y ((k : Int) + 1) (n - N - monF Y k + 1) from fun h => ⟨y0, y1, by omega, by omega, by omega, by omega⟩)
    have HQ2 := Lib.hid (show numF Y ((k : Int) + 1) (n - N - monF Y k + 1) = n by rw [(HQ _ _).out, show ((k : Int) + 1 - 1).toNat = k by omega]; omega)
    have C : ∀ _ : Nat, Hid (Calls Tryd.prog 31 #[.int .i64 Y, .int .i64 ((k : Int) + 1)] (w.alloc (Obj.cells #[Value.int IntKind.i64 0, Value.int IntKind.i64 0, Value.int IntKind.i64 0] 32)) fun e w' => e = .returned (.int .i64 (lenF Y ((k : Int) + 1))) ∧ w.alloc (Obj.cells #[Value.int IntKind.i64 0, Value.int IntKind.i64 0, Value.int IntKind.i64 0] 32) = w') := fun _ => length_any Y _ _ hy HLr.out
    clear yl
    generalize lenF Y ((k : Int) + 1) = L at *
    generalize hRr : n - N - monF Y k = R at *
    have r9 : R ≤ 146097 := by omega
    by_cases hlt : L ≤ R
    · have HRr := Lib.hid (show n - N - monF Y (k + 1) = R - L by rw [HM.out, ← hRr]; omega)
      have HK2 := Lib.hid (HK.out hlt)
      have dL : decide (L ≤ R) = true := by simp only [decide_eq_true_eq]; exact hlt
      clear hRr m0 HR HK HM
      go_wp2_with fail
      refine (C 0).out.mono ?_
      rintro e w1 ⟨rfl, rfl⟩
      go_wp2_with fail
      refine (C 0).out.mono ?_
      rintro e w1 ⟨rfl, rfl⟩
      go_wp2
      go_roundg (gk - 1)
      case measure => omega
      case rel => exact ⟨k + 1, by go_num, by rw [HRr.out], HK2.out, by omega, by rw [HRr.out]; omega, rfl⟩
    · have HR2 := Lib.hid (HR.out (by omega))
      have dL : decide (L ≤ R) = false := by simp only [decide_eq_false_iff_not]; exact hlt
      clear hRr m0 HR HK HM
      go_wp2_with fail
      refine (C 0).out.mono ?_
      rintro e w1 ⟨rfl, rfl⟩
      go_wp2
      refine bodyPost_ret (v := .tuple #[.agg #[.int .i64 Y, .int .i64 ((k : Int) + 1), .int .i64 (R + 1)], .int .i64 0]) (by simp [results, Tryd.results39, go_sem]) rfl ⟨⟨Y, (k : Int) + 1, R + 1, HR2.out, HQ2.out, rfl⟩, ?_⟩
      repeat' (first | (with_reducible exact Gr.refl _) | with_reducible apply Gr.alloc | (with_reducible refine Gr.setCell ?_ ?_ _) | (simp; done))

set_option maxHeartbeats 800000 in
theorem of_no (n : Int) (w : World) (h0 : n < 0 ∨ 146097 ≤ n) : Calls Tryd.prog 39 #[.int .i64 n] w fun e w' => e = .returned (.tuple #[.agg #[.int .i64 0, .int .i64 0, .int .i64 0], .int .i64 31]) ∧ Gr w w' := by
  have A : ∀ W, Hid (Calls Tryd.prog 40 #[.int .i64 2300] W fun e w' => e = .returned (.int .i64 146097) ∧ W = w') := fun W => Lib.hid (by have := ny_any 2300 W (by omega) (by omega); rwa [ny_last] at this)
  by_cases h1 : n < 0
  · have d0 : decide (n < 0) = true := by simp only [decide_eq_true_eq]; exact h1
    clear h0 A
    go_enter Tryd.func39, Tryd.ntmps39
    go_wp2
    refine bodyPost_ret (v := .tuple #[.agg #[.int .i64 0, .int .i64 0, .int .i64 0], .int .i64 31]) (by simp [results, Tryd.results39, go_sem]) rfl ⟨rfl, ?_⟩
    repeat' (first | (with_reducible exact Gr.refl _) | with_reducible apply Gr.alloc | (with_reducible refine Gr.setCell ?_ ?_ _) | (simp; done))
  · have d0 : decide (n < 0) = false := by simp only [decide_eq_false_iff_not]; exact h1
    have h2 : 146097 ≤ n := by omega
    have d1 : decide (146097 ≤ n) = true := by simp only [decide_eq_true_eq]; exact h2
    clear h0
    go_enter Tryd.func39, Tryd.ntmps39
    go_wp2_with fail
    refine (A _).out.mono ?_
    rintro e w1 ⟨rfl, rfl⟩
    go_wp2
    refine bodyPost_ret (v := .tuple #[.agg #[.int .i64 0, .int .i64 0, .int .i64 0], .int .i64 31]) (by simp [results, Tryd.results39, go_sem]) rfl ⟨rfl, ?_⟩
    repeat' (first | (with_reducible exact Gr.refl _) | with_reducible apply Gr.alloc | (with_reducible refine Gr.setCell ?_ ?_ _) | (simp; done))
end Go.Proofs.YtijhfjehdpgjmaaDoor
