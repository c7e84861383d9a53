/- Of, of the document's answer. -/
import Derived.Test.YtijhfjehdpgjmaaDoorCivD
namespace Go.Proofs.YtijhfjehdpgjmaaDoor
open Go.RowKit Go.Sort

set_option maxHeartbeats 800000 in
theorem rof_yes (n : Int) (w : World) (h0 : 0 ≤ n) (h1 : n < 146097) : Calls Tryd.prog 35 #[.int .i64 n] w (OfYes n w) := by
  go_enter Tryd.func35, Tryd.ntmps35
  go_wp2
  go_loopg [4, 5] 600 (fun g c4 c5 wr => ∃ k : Nat, c4 = .int .i64 (n - nyF (1900 + (k : Int))) ∧ c5 = .int .i64 (1900 + (k : Int)) ∧ g + k = 600 ∧ 0 ≤ n - nyF (1900 + (k : Int)) ∧ wr = w.alloc (Obj.cells #[Value.int IntKind.i64 0, Value.int IntKind.i64 0, Value.int IntKind.i64 0] 32))
  case atStart => exact ⟨0, by simp [ny_first], by simp, by omega, by simp [ny_first]; omega, rfl⟩
  case round =>
    obtain ⟨k, rfl, rfl, hg, hr, rfl⟩ := hrel
    have HN := Lib.hid (ny_next (1900 + (k : Int)))
    have hm := ny_mono_nat 1900 k
    rw [ny_first] at hm
    have k9 : k ≤ 548 := by omega
    have l0 := ylF_lo (1900 + (k : Int))
    have l1 := ylF_hi (1900 + (k : Int))
    have C : ∀ _ : Nat, Hid (Calls Tryd.prog 32 #[.int .i64 (1900 + (k : Int))] (w.alloc (Obj.cells #[Value.int IntKind.i64 0, Value.int IntKind.i64 0, Value.int IntKind.i64 0] 32)) fun e w' => e = .returned (.int .i64 (ylF (1900 + (k : Int)))) ∧ w.alloc (Obj.cells #[Value.int IntKind.i64 0, Value.int IntKind.i64 0, Value.int IntKind.i64 0] 32) = w') := fun _ => ryear_any _ _ ⟨by omega, by omega⟩
    have HY := Lib.hid (show (n - nyF (1900 + (k : Int)) < ylF (1900 + (k : Int))) → n < nyF (1900 + (k : Int) + 1) by intro h; rw [HN.out]; omega)
    have HZ := Lib.hid (show nyF (1900 + (k : Int)) ≤ n by omega)
    clear hm
    generalize ylF (1900 + (k : Int)) = L at *
    generalize hRr : n - nyF (1900 + (k : Int)) = R at *
    have HRr := Lib.hid hRr
    have r9 : R ≤ 200000 := by have := (ny_mono_nat 1900 k); rw [ny_first] at this; omega
    clear hRr
    by_cases hlt : L ≤ R
    · have HR2 := Lib.hid (show n - nyF (1900 + ((k + 1 : Nat) : Int)) = R - L by rw [show (1900 : Int) + ((k + 1 : Nat) : Int) = 1900 + (k : Int) + 1 by omega, HN.out, ← HRr.out]; omega)
      have dL : decide (L ≤ R) = true := by simp only [decide_eq_true_eq]; exact hlt
      clear HN HY HZ
      go_wp2_with fail
      refine (C 0).out.mono ?_
      rintro e w1 ⟨rfl, rfl⟩
      go_wp2_with fail
      refine (C 0).out.mono ?_
      rintro e w1 ⟨rfl, rfl⟩
      go_wp2
      go_roundg (gk - 1)
      case measure => omega
      case rel => exact ⟨k + 1, by rw [HR2.out], by go_num, by omega, by rw [HR2.out]; omega, rfl⟩
    · have dL : decide (L ≤ R) = false := by simp only [decide_eq_false_iff_not]; exact hlt
      have hY2 := HY.out (by omega)
      clear HY HN
      have hb : 1900 + (k : Int) ≤ 2299 := by
        by_cases c : 1900 + (k : Int) ≤ 2299
        · exact c
        · exfalso
          have := ny_mono 2300 (1900 + (k : Int)) (by omega)
          rw [ny_last] at this
          have := HZ.out
          omega
      go_wp2_with fail
      refine (C 0).out.mono ?_
      rintro e w1 ⟨rfl, rfl⟩
      go_wp2
      clear C
      have y0 : 1900 ≤ 1900 + (k : Int) := by omega
      generalize hYY : 1900 + (k : Int) = Y at *
      rw [ny_next] at hY2
      have hRr := HRr.out
      obtain ⟨y4, _⟩ := ny_bd Y (by omega) (by omega)
      have hy : I Y := ⟨by omega, by omega⟩
      have yl := ylF_hi Y
      have HQ : ∀ m d, Hid (numF Y m d = nyF Y + monF Y (m - 1).toNat + d - 1) := fun m d => Lib.hid rfl
      clear HRr hYY HZ
      generalize nyF Y = N at *
      subst hRr
      clear dL hlt r9 k9 l0 l1 hg
      go_loopg [4, 6] 12 (fun g c6 c5 wr => ∃ k : Nat, c5 = .int .i64 ((k : Int) + 1) ∧ c6 = .int .i64 (n - N - monF Y k) ∧ k ≤ 11 ∧ g + k = 12 ∧ 0 ≤ n - N - monF Y k ∧ wr = w.alloc (Obj.cells #[Value.int IntKind.i64 0, Value.int IntKind.i64 0, Value.int IntKind.i64 0] 32))
      case atStart => exact ⟨0, by simp, by simp [monF], by omega, by omega, by simp [monF]; omega, rfl⟩
      case round =>
        obtain ⟨k, rfl, rfl, hk, hg, hr, rfl⟩ := hrel
        have m0 := mon_nn Y k
        have HM := Lib.hid (mon_next Y k)
        have l0 := lenF_nn Y ((k : Int) + 1)
        have l1 := lenF_hi Y ((k : Int) + 1)
        have HK := Lib.hid (show lenF Y ((k : Int) + 1) ≤ n - N - monF Y k → k + 1 ≤ 11 by
          intro h
          by_cases c : k = 11
          · subst c
            have a := mon_next Y 11
            rw [mon12] at a
            omega
          · omega)
        have HR := Lib.hid (show n - N - monF Y k < lenF Y ((k : Int) + 1) → rightP Y ((k : Int) + 1) (n - N - monF Y k + 1) from fun h => ⟨y0, hb, by omega, by omega, by omega, by omega⟩)
        have HQ2 := Lib.hid (show numF Y ((k : Int) + 1) (n - N - monF Y k + 1) = n by rw [(HQ _ _).out, show ((k : Int) + 1 - 1).toNat = k by omega]; omega)
        have C : ∀ _ : Nat, Hid (Calls Tryd.prog 27 #[.int .i64 Y, .int .i64 ((k : Int) + 1)] (w.alloc (Obj.cells #[Value.int IntKind.i64 0, Value.int IntKind.i64 0, Value.int IntKind.i64 0] 32)) fun e w' => e = .returned (.int .i64 (lenF Y ((k : Int) + 1))) ∧ w.alloc (Obj.cells #[Value.int IntKind.i64 0, Value.int IntKind.i64 0, Value.int IntKind.i64 0] 32) = w') := fun _ => rlength_any Y _ _ hy
        clear yl
        generalize lenF Y ((k : Int) + 1) = L at *
        generalize hRr : n - N - monF Y k = R at *
        have r9 : R ≤ 200000 := by omega
        by_cases hlt : L ≤ R
        · have HRr := Lib.hid (show n - N - monF Y (k + 1) = R - L by rw [HM.out, ← hRr]; omega)
          have HK2 := Lib.hid (HK.out hlt)
          have dL : decide (L ≤ R) = true := by simp only [decide_eq_true_eq]; exact hlt
          clear hRr m0 HR HK HM
          go_wp2_with fail
          refine (C 0).out.mono ?_
          rintro e w1 ⟨rfl, rfl⟩
          go_wp2_with fail
          refine (C 0).out.mono ?_
          rintro e w1 ⟨rfl, rfl⟩
          go_wp2
          go_roundg (gk - 1)
          case measure => omega
          case rel => exact ⟨k + 1, by go_num, by rw [HRr.out], HK2.out, by omega, by rw [HRr.out]; omega, rfl⟩
        · have HR2 := Lib.hid (HR.out (by omega))
          have dL : decide (L ≤ R) = false := by simp only [decide_eq_false_iff_not]; exact hlt
          clear hRr m0 HR HK HM
          go_wp2_with fail
          refine (C 0).out.mono ?_
          rintro e w1 ⟨rfl, rfl⟩
          go_wp2
          refine bodyPost_ret (v := .tuple #[.agg #[.int .i64 Y, .int .i64 ((k : Int) + 1), .int .i64 (R + 1)], .int .i64 0]) (by simp [results, Tryd.results35, go_sem]) rfl ⟨⟨Y, (k : Int) + 1, R + 1, HR2.out, HQ2.out, rfl⟩, ?_⟩
          repeat' (first | (with_reducible exact Gr.refl _) | with_reducible apply Gr.alloc | (with_reducible refine Gr.setCell ?_ ?_ _) | (simp; done))

set_option maxHeartbeats 800000 in
theorem rof_no (n : Int) (w : World) (hn : n < 0 ∨ 146097 ≤ n) : Calls Tryd.prog 35 #[.int .i64 n] w fun e w' => e = .returned (.tuple #[.agg #[.int .i64 0, .int .i64 0, .int .i64 0], .int .i64 31]) ∧ Gr w w' := by
  by_cases h1 : n < 0
  · have d0 : decide (n < 0) = true := by simp only [decide_eq_true_eq]; exact h1
    clear hn
    go_enter Tryd.func35, Tryd.ntmps35
    go_wp2
    refine bodyPost_ret (v := .tuple #[.agg #[.int .i64 0, .int .i64 0, .int .i64 0], .int .i64 31]) (by simp [results, Tryd.results35, go_sem]) rfl ⟨rfl, ?_⟩
    repeat' (first | (with_reducible exact Gr.refl _) | with_reducible apply Gr.alloc | (with_reducible refine Gr.setCell ?_ ?_ _) | (simp; done))
  by_cases h2 : 200000 < n
  · have d0 : decide (n < 0) = false := by simp only [decide_eq_false_iff_not]; exact h1
    have d1 : decide (200000 < n) = true := by simp only [decide_eq_true_eq]; exact h2
    clear hn
    go_enter Tryd.func35, Tryd.ntmps35
    go_wp2
    refine bodyPost_ret (v := .tuple #[.agg #[.int .i64 0, .int .i64 0, .int .i64 0], .int .i64 31]) (by simp [results, Tryd.results35, go_sem]) rfl ⟨rfl, ?_⟩
    repeat' (first | (with_reducible exact Gr.refl _) | with_reducible apply Gr.alloc | (with_reducible refine Gr.setCell ?_ ?_ _) | (simp; done))
  have h3 : 146097 ≤ n := by omega
  clear hn
  go_enter Tryd.func35, Tryd.ntmps35
  go_wp2
  go_loopg [4, 5] 600 (fun g c4 c5 wr => ∃ k : Nat, c4 = .int .i64 (n - nyF (1900 + (k : Int))) ∧ c5 = .int .i64 (1900 + (k : Int)) ∧ g + k = 600 ∧ 0 ≤ n - nyF (1900 + (k : Int)) ∧ wr = w.alloc (Obj.cells #[Value.int IntKind.i64 0, Value.int IntKind.i64 0, Value.int IntKind.i64 0] 32))
  case atStart => exact ⟨0, by simp [ny_first], by simp, by omega, by simp [ny_first]; omega, rfl⟩
  case round =>
    obtain ⟨k, rfl, rfl, hg, hr, rfl⟩ := hrel
    have HN := Lib.hid (ny_next (1900 + (k : Int)))
    have hm := ny_mono_nat 1900 k
    rw [ny_first] at hm
    have k9 : k ≤ 548 := by omega
    have l0 := ylF_lo (1900 + (k : Int))
    have l1 := ylF_hi (1900 + (k : Int))
    have C : ∀ _ : Nat, Hid (Calls Tryd.prog 32 #[.int .i64 (1900 + (k : Int))] (w.alloc (Obj.cells #[Value.int IntKind.i64 0, Value.int IntKind.i64 0, Value.int IntKind.i64 0] 32)) fun e w' => e = .returned (.int .i64 (ylF (1900 + (k : Int)))) ∧ w.alloc (Obj.cells #[Value.int IntKind.i64 0, Value.int IntKind.i64 0, Value.int IntKind.i64 0] 32) = w') := fun _ => ryear_any _ _ ⟨by omega, by omega⟩
    have HY := Lib.hid (show (n - nyF (1900 + (k : Int)) < ylF (1900 + (k : Int))) → n < nyF (1900 + (k : Int) + 1) by intro h; rw [HN.out]; omega)
    have HZ := Lib.hid (show nyF (1900 + (k : Int)) ≤ n by omega)
    clear hm
    generalize ylF (1900 + (k : Int)) = L at *
    generalize hRr : n - nyF (1900 + (k : Int)) = R at *
    have HRr := Lib.hid hRr
    have r9 : R ≤ 200000 := by have := (ny_mono_nat 1900 k); rw [ny_first] at this; omega
    clear hRr
    by_cases hlt : L ≤ R
    · have HR2 := Lib.hid (show n - nyF (1900 + ((k + 1 : Nat) : Int)) = R - L by rw [show (1900 : Int) + ((k + 1 : Nat) : Int) = 1900 + (k : Int) + 1 by omega, HN.out, ← HRr.out]; omega)
      have dL : decide (L ≤ R) = true := by simp only [decide_eq_true_eq]; exact hlt
      clear HN HY HZ
      go_wp2_with fail
      refine (C 0).out.mono ?_
      rintro e w1 ⟨rfl, rfl⟩
      go_wp2_with fail
      refine (C 0).out.mono ?_
      rintro e w1 ⟨rfl, rfl⟩
      go_wp2
      go_roundg (gk - 1)
      case measure => omega
      case rel => exact ⟨k + 1, by rw [HR2.out], by go_num, by omega, by rw [HR2.out]; omega, rfl⟩
    · have dL : decide (L ≤ R) = false := by simp only [decide_eq_false_iff_not]; exact hlt
      have hY2 := HY.out (by omega)
      clear HY HN
      have hb : 2299 < 1900 + (k : Int) := by
        by_cases c : 2299 < 1900 + (k : Int)
        · exact c
        · exfalso
          have := ny_mono (1900 + (k : Int) + 1) 2300 (by omega)
          rw [ny_last] at this
          omega
      clear hY2
      go_wp2_with fail
      refine (C 0).out.mono ?_
      rintro e w1 ⟨rfl, rfl⟩
      go_wp2
      refine bodyPost_ret (v := .tuple #[.agg #[.int .i64 0, .int .i64 0, .int .i64 0], .int .i64 31]) (by simp [results, Tryd.results35, go_sem]) rfl ⟨rfl, ?_⟩
      repeat' (first | (with_reducible exact Gr.refl _) | with_reducible apply Gr.alloc | (with_reducible refine Gr.setCell ?_ ?_ _) | (simp; done))
end Go.Proofs.YtijhfjehdpgjmaaDoor
