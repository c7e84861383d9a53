/- Days of the calendar as whole numbers: leap years, months' lengths, a year's first day, a date's number. -/
import Derived.Test.YtijhfjehdpgjmaaDoorChecked
namespace Go.Proofs.YtijhfjehdpgjmaaDoor

def leapP (y : Int) : Prop := (y % 4 = 0 ∧ y % 100 ≠ 0) ∨ y % 400 = 0
instance (y : Int) : Decidable (leapP y) := by unfold leapP; infer_instance
/-- how many days month m has in year y -/
def lenF (y m : Int) : Int := if m < 1 ∨ 12 < m then 0 else if m = 2 then (if leapP y then 29 else 28) else if m = 4 ∨ m = 6 ∨ m = 9 ∨ m = 11 then 30 else 31
def rightP (y m d : Int) : Prop := 1900 ≤ y ∧ y ≤ 2299 ∧ 1 ≤ m ∧ m ≤ 12 ∧ 1 ≤ d ∧ d ≤ lenF y m
instance (y m d : Int) : Decidable (rightP y m d) := by unfold rightP; infer_instance
def lpF (y : Int) : Int := (y - 1) / 4 - (y - 1) / 100 + (y - 1) / 400
/-- the number of the first day of year y -/
def nyF (y : Int) : Int := 365 * (y - 1900) + lpF y - 460
/-- how many days the first k months have -/
def monF (y : Int) : Nat → Int
  | 0 => 0
  | k + 1 => monF y k + lenF y (k + 1)
def numF (y m d : Int) : Int := nyF y + monF y (m - 1).toNat + d - 1
def ylF (y : Int) : Int := if leapP y then 366 else 365

theorem lenF_lo (y m : Int) (h : 1 ≤ m) (h2 : m ≤ 12) : 28 ≤ lenF y m := by unfold lenF; repeat' split <;> omega
theorem lenF_hi (y m : Int) : lenF y m ≤ 31 := by unfold lenF; repeat' split <;> omega
theorem lenF_nn (y m : Int) : 0 ≤ lenF y m := by unfold lenF; repeat' split <;> omega
theorem lenF_out (y m : Int) (h : m < 1 ∨ 12 < m) : lenF y m = 0 := by unfold lenF; rw [if_pos h]
theorem ylF_lo (y : Int) : 365 ≤ ylF y := by unfold ylF; split <;> omega
theorem ylF_hi (y : Int) : ylF y ≤ 366 := by unfold ylF; split <;> omega
theorem ny_next (y : Int) : nyF (y + 1) = nyF y + ylF y := by
  unfold nyF ylF lpF
  by_cases h : leapP y
  · rw [if_pos h]; unfold leapP at h; omega
  · rw [if_neg h]; unfold leapP at h; omega
theorem ny_first : nyF 1900 = 0 := by decide
theorem ny_last : nyF 2300 = 146097 := by decide
theorem mon12 (y : Int) : monF y 12 = ylF y := by
  unfold ylF
  by_cases h : leapP y <;> simp [monF, lenF, h]
theorem mon_next (y : Int) (k : Nat) : monF y (k + 1) = monF y k + lenF y (k + 1) := rfl
theorem mon_mono (y : Int) (j k : Nat) (h : j ≤ k) : monF y j ≤ monF y k := by
  induction k with
  | zero => obtain rfl : j = 0 := by omega
            exact Int.le_refl _
  | succ k ih =>
    by_cases e : j = k + 1
    · subst e; exact Int.le_refl _
    · have := ih (by omega)
      have := lenF_nn y (k + 1)
      rw [mon_next]; omega
theorem mon_nn (y : Int) (k : Nat) : 0 ≤ monF y k := mon_mono y 0 k (Nat.zero_le _)
theorem ny_mono_nat (y : Int) (k : Nat) : nyF y + 365 * k ≤ nyF (y + k) := by
  induction k with
  | zero => simp
  | succ k ih =>
    have := ny_next (y + k)
    have := ylF_lo (y + k)
    have e : y + ((k + 1 : Nat) : Int) = y + k + 1 := by omega
    rw [e]; omega
theorem ny_mono (a b : Int) (h : a ≤ b) : nyF a + 365 * (b - a) ≤ nyF b := by
  have := ny_mono_nat a (b - a).toNat
  have e : a + ((b - a).toNat : Int) = b := by omega
  rw [e] at this; omega
theorem ny_bd (y : Int) (h : 1900 ≤ y) (h2 : y ≤ 2300) : 0 ≤ nyF y ∧ nyF y ≤ 146097 := by
  have := ny_mono 1900 y h; have := ny_mono y 2300 h2; rw [ny_first] at *; rw [ny_last] at *; omega
theorem mon_le (y : Int) (k : Nat) (h : k ≤ 12) : monF y k ≤ ylF y := by rw [← mon12]; exact mon_mono y k 12 h

/-- where a right date's number lies -/
theorem num_in {y m d : Int} (h : rightP y m d) : nyF y ≤ numF y m d ∧ numF y m d < nyF (y + 1) ∧ 0 ≤ numF y m d ∧ numF y m d < 146097 := by
  obtain ⟨h1, h2, h3, h4, h5, h6⟩ := h
  have a := mon_nn y (m - 1).toNat
  have b := mon_le y ((m - 1).toNat + 1) (by omega)
  rw [mon_next] at b
  have e : (((m - 1).toNat : Nat) : Int) + 1 = m := by omega
  rw [e] at b
  have c := ny_next y
  have d1 := ny_bd y h1 (by omega)
  have d2 := ny_bd (y + 1) (by omega) (by omega)
  unfold numF
  omega

theorem num_inj {y m d y' m' d' : Int} (h : rightP y m d) (h' : rightP y' m' d') (he : numF y m d = numF y' m' d') : y = y' ∧ m = m' ∧ d = d' := by
  obtain ⟨a1, a2, _, _⟩ := num_in h
  obtain ⟨b1, b2, _, _⟩ := num_in h'
  have hy : y = y' := by
    rcases Int.lt_trichotomy y y' with c | c | c
    · have := ny_mono (y + 1) y' (by omega); omega
    · exact c
    · have := ny_mono (y' + 1) y (by omega); omega
  subst hy
  obtain ⟨_, _, h3, h4, h5, h6⟩ := h
  obtain ⟨_, _, k3, k4, k5, k6⟩ := h'
  unfold numF at he
  have key : ∀ p q e f : Int, 1 ≤ p → 1 ≤ e → e ≤ lenF y p → 1 ≤ f → p < q → monF y (p - 1).toNat + e < monF y (q - 1).toNat + f := by
    intro p q e f hp he1 he2 hf hpq
    have := mon_mono y ((p - 1).toNat + 1) (q - 1).toNat (by omega)
    rw [mon_next] at this
    have e' : (((p - 1).toNat : Nat) : Int) + 1 = p := by omega
    rw [e'] at this
    omega
  have hm : m = m' := by
    rcases Int.lt_trichotomy m m' with c | c | c
    · have := key m m' d d' h3 h5 h6 k5 c; omega
    · exact c
    · have := key m' m d' d k3 k5 k6 h5 c; omega
  subst hm
  refine ⟨rfl, rfl, ?_⟩
  omega
/-- each number of a day has its date -/
theorem date_of (n : Int) (h0 : 0 ≤ n) (h1 : n < 146097) : ∃ y m d, rightP y m d ∧ numF y m d = n := by
  have hy : ∀ k : Nat, n < nyF (1900 + (k : Int)) → ∃ j : Nat, j < k ∧ nyF (1900 + (j : Int)) ≤ n ∧ n < nyF (1900 + (j : Int) + 1) := by
    intro k
    induction k with
    | zero => intro h; simp [ny_first] at h; omega
    | succ k ih =>
      intro h
      by_cases c : n < nyF (1900 + (k : Int))
      · obtain ⟨j, hj, a⟩ := ih c; exact ⟨j, by omega, a⟩
      · exact ⟨k, by omega, by omega, by rw [show (1900 : Int) + ((k + 1 : Nat) : Int) = 1900 + (k : Int) + 1 by omega] at h; exact h⟩
  obtain ⟨j, hj, a1, a2⟩ := hy 400 (by have := ny_last; simpa [this] using h1)
  generalize hY : 1900 + (j : Int) = Y at *
  rw [ny_next, ← mon12] at a2
  have hm : ∀ k : Nat, n - nyF Y < monF Y k → ∃ i : Nat, i < k ∧ monF Y i ≤ n - nyF Y ∧ n - nyF Y < monF Y (i + 1) := by
    intro k
    induction k with
    | zero => intro h; simp [monF] at h; omega
    | succ k ih =>
      intro h
      by_cases c : n - nyF Y < monF Y k
      · obtain ⟨j, hj, a⟩ := ih c; exact ⟨j, by omega, a⟩
      · exact ⟨k, by omega, by omega, h⟩
  obtain ⟨i, hi, b1, b2⟩ := hm 12 (by omega)
  rw [mon_next] at b2
  refine ⟨Y, (i : Int) + 1, n - nyF Y - monF Y i + 1, ⟨by omega, by omega, by omega, by omega, by omega, by omega⟩, ?_⟩
  unfold numF
  rw [show ((i : Int) + 1 - 1).toNat = i by omega]
  omega
end Go.Proofs.YtijhfjehdpgjmaaDoor
