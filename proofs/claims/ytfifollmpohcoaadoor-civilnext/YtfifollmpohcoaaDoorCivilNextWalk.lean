/- The walk of falseworklaw03.CivilNext. -/
import Derived.Test.YtfifollmpohcoaaDoorCivG
namespace Go.Proofs.YtfifollmpohcoaaDoor
open Go.RowKit Go.Sort

/-- the day behind a day -/
theorem next_day {y m d : Int} (h : rightP y m d) (hd : d < lenF y m) : rightP y m (d + 1) ∧ numF y m (d + 1) = numF y m d + 1 := by
  obtain ⟨a, b, c, e, f, g⟩ := h
  exact ⟨⟨a, b, c, e, by omega, by omega⟩, by unfold numF; omega⟩
theorem next_month {y m d : Int} (h : rightP y m d) (hd : ¬ d < lenF y m) (hm : m < 12) : rightP y (m + 1) 1 ∧ numF y (m + 1) 1 = numF y m d + 1 := by
  obtain ⟨a, b, c, e, f, g⟩ := h
  have l := lenF_lo y (m + 1) (by omega) (by omega)
  refine ⟨⟨a, b, by omega, by omega, by omega, by omega⟩, ?_⟩
  unfold numF
  rw [show (m + 1 - 1).toNat = (m - 1).toNat + 1 by omega, mon_next, show (((m - 1).toNat : Nat) : Int) + 1 = m by omega]
  omega
theorem next_year {y m d : Int} (h : rightP y m d) (hd : ¬ d < lenF y m) (hm : ¬ m < 12) (hn : numF y m d ≠ 146096) : rightP (y + 1) 1 1 ∧ numF (y + 1) 1 1 = numF y m d + 1 := by
  obtain ⟨a, b, c, e, f, g⟩ := h
  obtain rfl : m = 12 := by omega
  have hd' : d = lenF y 12 := by omega
  have k : numF y 12 d + 1 = nyF (y + 1) := by
    unfold numF
    rw [ny_next, ← mon12, hd']
    have : monF y 12 = monF y 11 + lenF y 12 := by have := mon_next y 11; simpa using this
    rw [show ((12 : Int) - 1).toNat = 11 by decide]
    omega
  have l := lenF_lo (y + 1) 1 (by omega) (by omega)
  refine ⟨⟨by omega, ?_, by omega, by omega, by omega, by omega⟩, ?_⟩
  · by_cases c : y + 1 ≤ 2299
    · exact c
    · obtain rfl : y = 2299 := by omega
      have := ny_last
      exact absurd (show numF 2299 12 d = 146096 by rw [show (2299 : Int) + 1 = 2300 by omega] at k; omega) hn
  · rw [k]; unfold numF; simp [monF]

theorem week_next (n : Int) : (n + 1) % 7 = (n % 7 + 1) % 7 := by omega

set_option maxHeartbeats 400000 in
theorem next_no (n : Int) (w : World) (hL : Lens w) (h : n < 0 ∨ 146097 ≤ n) : Calls Tryd.prog 8 #[.int .i64 n] w fun e w' => e = .returned (.bool true) ∧ Gr w w' := by
  have A : ∀ W, Hid (Calls Tryd.prog 10 #[.int .i64 n] W fun e w' => e = .returned (.tuple #[.agg #[.int .i64 0, .int .i64 0, .int .i64 0], .int .i64 31]) ∧ Gr W w') := fun W => of_no n W h
  have HL := Lib.hid hL
  clear hL h
  go_enter Tryd.func8, Tryd.ntmps8
  go_wp2_with fail
  refine (alive_any _ HL.out).mono ?_
  rintro e w1 ⟨rfl, hg1⟩
  have HG1 := Lib.hid hg1
  clear hg1
  go_wp2_with fail
  refine (A _).out.mono ?_
  rintro e w2 ⟨rfl, hg2⟩
  have HG2 := Lib.hid (HG1.out.trans hg2)
  clear hg2
  go_wp2
  go_ret
  exact ⟨rfl, by repeat' (first | (with_reducible exact HG2.out) | with_reducible apply Gr.alloc)⟩

set_option maxHeartbeats 400000 in
theorem next_last (y m d : Int) (w : World) (hL : Lens w) (hr : rightP y m d) (hn : numF y m d = 146096) : Calls Tryd.prog 8 #[.int .i64 146096] w fun e w' => e = .returned (.bool true) ∧ Gr w w' := by
  have A : ∀ W, Lens W → Hid (Calls Tryd.prog 10 #[.int .i64 146096] W fun e w' => e = .returned (.tuple #[.agg #[.int .i64 y, .int .i64 m, .int .i64 d], .int .i64 0]) ∧ Gr W w') := fun W h => of_at W h hr hn
  have HL := Lib.hid hL
  clear hL hr hn
  go_enter Tryd.func8, Tryd.ntmps8
  go_wp2_with fail
  refine (alive_any _ HL.out).mono ?_
  rintro e w1 ⟨rfl, hg1⟩
  have HG1 := Lib.hid hg1
  clear hg1
  go_wp2_with fail
  refine (A _ (HL.out.gr HG1.out)).out.mono ?_
  rintro e w2 ⟨rfl, hg2⟩
  have HG2 := Lib.hid (HG1.out.trans hg2)
  clear hg2
  go_wp2
  go_ret
  exact ⟨rfl, by repeat' (first | (with_reducible exact HG2.out) | with_reducible apply Gr.alloc)⟩

set_option maxHeartbeats 800000 in
theorem next_yes (n y m d y' m' d' : Int) (w : World) (hL : Lens w) (n0 : 0 ≤ n) (n1 : n < 146096) (hr : rightP y m d) (hn : numF y m d = n) (hr' : rightP y' m' d') (hn' : numF y' m' d' = n + 1)
    (hc : (d < lenF y m ∧ y' = y ∧ m' = m ∧ d' = d + 1) ∨ (¬ d < lenF y m ∧ m < 12 ∧ y' = y ∧ m' = m + 1 ∧ d' = 1) ∨ (¬ d < lenF y m ∧ ¬ m < 12 ∧ y' = y + 1 ∧ m' = 1 ∧ d' = 1)) :
    Calls Tryd.prog 8 #[.int .i64 n] w fun e w' => e = .returned (.bool true) ∧ Gr w w' := by
  have A : ∀ W, Lens W → Hid (Calls Tryd.prog 10 #[.int .i64 n] W fun e w' => e = .returned (.tuple #[.agg #[.int .i64 y, .int .i64 m, .int .i64 d], .int .i64 0]) ∧ Gr W w') := fun W h => of_at W h hr hn
  have B : ∀ W, Lens W → Hid (Calls Tryd.prog 10 #[.int .i64 (n + 1)] W fun e w' => e = .returned (.tuple #[.agg #[.int .i64 y', .int .i64 m', .int .i64 d'], .int .i64 0]) ∧ Gr W w') := fun W h => of_at W h hr' hn'
  have C : ∀ W, Hid (Calls Tryd.prog 23 #[.int .i64 n] W fun e w' => e = .returned (.int .i64 (n % 7)) ∧ W = w') := fun W => week_any n W ⟨by omega, by omega⟩
  have D : ∀ W, Hid (Calls Tryd.prog 23 #[.int .i64 (n + 1)] W fun e w' => e = .returned (.int .i64 ((n % 7 + 1) % 7)) ∧ W = w') := fun W => Lib.hid (by have := week_any (n + 1) W ⟨by omega, by omega⟩; rwa [week_next] at this)
  obtain ⟨b1, b2, b3, b4, b5, b6⟩ := hr
  have l1 := lenF_hi y m
  have E : ∀ W, Lens W → Hid (Calls Tryd.prog 18 #[.int .i64 y, .int .i64 m] W fun e w' => e = .returned (.int .i64 (lenF y m)) ∧ W = w') := fun W h => length_any y m W ⟨by omega, by omega⟩ h
  have b7 : d ≤ 31 := by omega
  have HL := Lib.hid hL
  have v0 : 0 ≤ n % 7 ∧ n % 7 < 7 := by omega
  have v1 : (n % 7 + 1).tmod 7 = (n % 7 + 1) % 7 := Int.tmod_eq_emod_of_nonneg (by omega)
  clear hL hr' hn' hn b6 l1
  generalize lenF y m = L at *
  generalize n % 7 = v at *
  generalize (v + 1) % 7 = u at *
  go_enter Tryd.func8, Tryd.ntmps8
  go_wp2_with fail
  refine (alive_any _ HL.out).mono ?_
  rintro e w1 ⟨rfl, hg1⟩
  have HG1 := Lib.hid hg1
  clear hg1
  go_wp2_with fail
  refine (A _ (HL.out.gr HG1.out)).out.mono ?_
  rintro e w2 ⟨rfl, hg2⟩
  have HG2 := Lib.hid (HG1.out.trans hg2)
  clear hg2 HG1 A
  go_wp2_with fail
  refine (B _ (HL.out.gr (HG2.out.alloc _))).out.mono ?_
  rintro e w3 ⟨rfl, hg3⟩
  obtain ⟨c0, c1, c2⟩ := boxed w2 y m d 23
  have hS : w2.heap.size < (w2.alloc (Obj.cells #[Value.int IntKind.i64 y, Value.int IntKind.i64 m, Value.int IntKind.i64 d] 23)).heap.size := by simp
  have e0 := gcell hg3 hS c0
  have e1 := gcell hg3 hS c1
  have e2 := gcell hg3 hS c2
  have hS3 := Nat.lt_of_lt_of_le hS hg3.size
  have HG3 := Lib.hid ((HG2.out.alloc _).trans hg3)
  have HL3 := Lib.hid (HL.out.gr HG3.out)
  clear hg3 c0 c1 c2 hS B HG2
  go_wp2_with fail
  refine (D _).out.mono ?_
  rintro e w4 ⟨rfl, rfl⟩
  go_wp2_with fail
  refine (C _).out.mono ?_
  rintro e w4 ⟨rfl, rfl⟩
  clear C D
  go_wp2_with fail
  obtain ⟨k0, k1, k2⟩ := boxed w3 y' m' d' 23
  have hb : Gr w3 (w3.alloc (Obj.cells #[Value.int IntKind.i64 y', Value.int IntKind.i64 m', Value.int IntKind.i64 d'] 23)) := (Gr.refl _).alloc _
  have f0 := gcell hb hS3 e0
  have f1 := gcell hb hS3 e1
  have f2 := gcell hb hS3 e2
  have HB := Lib.hid hb
  clear hb e0 e1 e2
  generalize w3.alloc (Obj.cells #[Value.int IntKind.i64 y', Value.int IntKind.i64 m', Value.int IntKind.i64 d'] 23) = W at *
  have E2 : ∀ n, Hid (Calls Tryd.prog 18 #[.int .i64 y, .int .i64 m] (W.drewN n) fun e w' => e = .returned (.int .i64 L) ∧ W.drewN n = w') := fun n => E _ (HL3.out.gr (HB.out.drewN n))
  clear E
  go_quiet ((go_at_call 18; with_reducible exact Calls.same' (E2 _).out))
  clear E2
  rcases hc with ⟨h1, rfl, rfl, rfl⟩ | ⟨h1, h2, rfl, rfl, rfl⟩ | ⟨h1, h2, rfl, rfl, rfl⟩
  all_goals go_wp2
  all_goals go_ret
  all_goals exact ⟨rfl, by repeat' (first | (with_reducible exact HG3.out.trans HB.out) | with_reducible apply Gr.alloc | with_reducible apply Gr.drewN | with_reducible apply Gr.drew)⟩

theorem civilNext_walk (n : Int) (w : World) (_hn : I n) (hL : Lens w) : Calls Tryd.prog 8 #[.int .i64 n] w fun e w' => e = .returned (.bool true) ∧ Below w.heap.size w w' := by
  by_cases h : n < 0 ∨ 146097 ≤ n
  · exact (next_no n w hL h).mono fun e w' ⟨he, hg⟩ => ⟨he, hg.below⟩
  · obtain ⟨y, m, d, hr, hd⟩ := date_of n (by omega) (by omega)
    by_cases hl : n = 146096
    · subst hl
      exact (next_last y m d w hL hr hd).mono fun e w' ⟨he, hg⟩ => ⟨he, hg.below⟩
    · by_cases c1 : d < lenF y m
      · obtain ⟨k1, k2⟩ := next_day hr c1
        exact (next_yes n y m d _ _ _ w hL (by omega) (by omega) hr hd k1 (k2.trans (by rw [hd])) (Or.inl ⟨c1, rfl, rfl, rfl⟩)).mono fun e w' ⟨he, hg⟩ => ⟨he, hg.below⟩
      · by_cases c2 : m < 12
        · obtain ⟨k1, k2⟩ := next_month hr c1 c2
          exact (next_yes n y m d _ _ _ w hL (by omega) (by omega) hr hd k1 (k2.trans (by rw [hd])) (Or.inr (Or.inl ⟨c1, c2, rfl, rfl, rfl⟩))).mono fun e w' ⟨he, hg⟩ => ⟨he, hg.below⟩
        · obtain ⟨k1, k2⟩ := next_year hr c1 c2 (by omega)
          exact (next_yes n y m d _ _ _ w hL (by omega) (by omega) hr hd k1 (k2.trans (by rw [hd])) (Or.inr (Or.inr ⟨c1, c2, rfl, rfl, rfl⟩))).mono fun e w' ⟨he, hg⟩ => ⟨he, hg.below⟩
end Go.Proofs.YtfifollmpohcoaaDoor
