/- Plain arithmetic for layer 1: numbers of 64 bits, products by halves, rounding. No program in it. -/
namespace Go.Proofs.Ytaebbfaheaghfaa

/-- a number of 64 bits with a sign -/
def I (n : Int) : Prop := -9223372036854775808 ≤ n ∧ n ≤ 9223372036854775807
instance (n : Int) : Decidable (I n) := by unfold I; infer_instance

/-- the number and the error that Add, Sub, Mul, Sum answer for a whole number n -/
def cutV (n : Int) : Int := if I n then n else 0
def cutE (n : Int) : Int := if I n then 0 else 11
theorem cutV_in {n : Int} (h : I n) : cutV n = n := by unfold cutV; rw [if_pos h]
theorem cutE_in {n : Int} (h : I n) : cutE n = 0 := by unfold cutE; rw [if_pos h]
theorem cutV_out {n : Int} (h : ¬ I n) : cutV n = 0 := by unfold cutV; rw [if_neg h]
theorem cutE_out {n : Int} (h : ¬ I n) : cutE n = 11 := by unfold cutE; rw [if_neg h]
theorem cutV_I (n : Int) : I (cutV n) := by unfold cutV; split; assumption; decide
theorem cutE_zero {n : Int} : cutE n = 0 ↔ I n := by unfold cutE; split <;> simp_all
theorem cutE_bd (n : Int) : 0 ≤ cutE n ∧ cutE n ≤ 11 := by unfold cutE; split <;> omega

theorem prod_bd (a b : Int) (ha : I a) (hb : I b) : -85070591730234615865843651857942052864 ≤ a * b ∧ a * b ≤ 85070591730234615865843651857942052864 := by
  obtain ⟨a0, a1⟩ := ha
  obtain ⟨b0, b1⟩ := hb
  have h1 : a.natAbs ≤ 9223372036854775808 := by omega
  have h2 : b.natAbs ≤ 9223372036854775808 := by omega
  have h3 := Nat.mul_le_mul h1 h2
  rw [← Int.natAbs_mul] at h3
  omega

/-- the halves of a product, out of the unsigned one's -/
theorem prod_hi (a b A B : Int) (ha : I a) (hb : I b) (hA : A = a % 18446744073709551616) (hB : B = b % 18446744073709551616) :
    (A * B / 18446744073709551616 - (if a < 0 then B else 0) - (if b < 0 then A else 0)) % 18446744073709551616 = (a * b / 18446744073709551616) % 18446744073709551616 ∧ A * B % 18446744073709551616 = a * b % 18446744073709551616 := by
  have hp := prod_bd a b ha hb
  obtain ⟨a0, a1⟩ := ha
  obtain ⟨b0, b1⟩ := hb
  by_cases h1 : a < 0 <;> by_cases h2 : b < 0
  · have e1 : A = a + 18446744073709551616 := by omega
    have e2 : B = b + 18446744073709551616 := by omega
    rw [if_pos h1, if_pos h2, e1, e2, Int.add_mul, Int.mul_add, Int.mul_add]
    generalize a * b = p at *
    omega
  · have e1 : A = a + 18446744073709551616 := by omega
    have e2 : B = b := by omega
    rw [if_pos h1, if_neg h2, e1, e2, Int.add_mul]
    generalize a * b = p at *
    omega
  · have e1 : A = a := by omega
    have e2 : B = b + 18446744073709551616 := by omega
    rw [if_neg h1, if_pos h2, e1, e2, Int.mul_add]
    generalize a * b = p at *
    omega
  · have e1 : A = a := by omega
    have e2 : B = b := by omega
    rw [if_neg h1, if_neg h2, e1, e2]
    generalize a * b = p at *
    omega

/-- rounded to the nearest, of two that are as near to the even one -/
def evenI (p c : Int) : Int := if 2 * (p % c) < c then p / c else if c < 2 * (p % c) then p / c + 1 else if p / c % 2 = 0 then p / c else p / c + 1

theorem neg_div (s c : Int) (hc : 0 < c) : (-s) / c = if s % c = 0 then -(s / c) else -(s / c) - 1 := by
  have e := Int.mul_ediv_add_emod s c
  have r0 := Int.emod_nonneg s (show c ≠ 0 by omega)
  have r1 := Int.emod_lt_of_pos s hc
  split
  · rename_i h
    have : -s = c * (-(s / c)) := by rw [Int.mul_neg]; omega
    rw [this, Int.mul_ediv_cancel_left _ (by omega)]
  · rename_i h
    have : -s = c * (-(s / c) - 1) + (c - s % c) := by rw [Int.mul_sub, Int.mul_neg]; omega
    rw [this, Int.mul_add_ediv_left _ _ (by omega), Int.ediv_eq_zero_of_lt (a := c - s % c) (b := c) (by omega) (by omega)]
    omega

theorem neg_mod (s c : Int) (hc : 0 < c) : (-s) % c = if s % c = 0 then 0 else c - s % c := by
  have e := Int.mul_ediv_add_emod s c
  have r0 := Int.emod_nonneg s (show c ≠ 0 by omega)
  have r1 := Int.emod_lt_of_pos s hc
  have d := neg_div s c hc
  have e2 := Int.mul_ediv_add_emod (-s) c
  split
  · rename_i h
    rw [if_pos h] at d
    rw [d, Int.mul_neg] at e2
    omega
  · rename_i h
    rw [if_neg h] at d
    rw [d, Int.mul_sub, Int.mul_neg] at e2
    omega

theorem even_neg (s c : Int) (hc : 0 < c) : evenI (-s) c = -(evenI s c) := by
  have r0 := Int.emod_nonneg s (show c ≠ 0 by omega)
  have r1 := Int.emod_lt_of_pos s hc
  unfold evenI
  rw [neg_mod s c hc, neg_div s c hc]
  by_cases h0 : s % c = 0
  · rw [if_pos h0, if_pos h0, h0]
    rw [if_pos (by omega), if_pos (by omega)]
  · rw [if_neg h0, if_neg h0]
    generalize s % c = r at *
    generalize s / c = q at *
    by_cases h1 : 2 * r < c
    · rw [if_neg (by omega), if_pos (by omega), if_pos h1]; omega
    · by_cases h2 : c < 2 * r
      · rw [if_pos (by omega), if_neg (by omega), if_pos h2]; omega
      · rw [if_neg (by omega), if_neg (by omega), if_neg h1, if_neg h2]
        by_cases h3 : q % 2 = 0
        · rw [if_neg (by omega), if_pos h3]; omega
        · rw [if_pos (by omega), if_neg h3]; omega

/-- a size with its sign -/
def sg (neg : Bool) (q : Int) : Int := if neg then -q else q

/-- rounded down, out of the size's quotient and rest -/
theorem floor_sg (p c : Int) (hc : 0 < c) (s q r : Int) (neg : Bool) (hs : p = sg neg s) (hq : q = s / c) (hr : r = s % c) :
    p / c = sg neg (q + if neg = true ∧ 0 < r then 1 else 0) := by
  have r0 := Int.emod_nonneg s (show c ≠ 0 by omega)
  cases neg
  · simp [sg] at *; rw [hs, hq]
  · simp [sg] at *
    rw [hs, neg_div s c hc]
    subst hq hr
    split <;> split <;> omega

theorem even_sg (p c : Int) (hc : 0 < c) (s q r : Int) (neg : Bool) (hs : p = sg neg s) (hq : q = s / c) (hr : r = s % c) :
    evenI p c = sg neg (q + if c < 2 * r ∨ 2 * r = c ∧ q % 2 = 1 then 1 else 0) := by
  have key : evenI s c = q + if c < 2 * r ∨ 2 * r = c ∧ q % 2 = 1 then 1 else 0 := by
    unfold evenI
    rw [← hq, ← hr]
    by_cases h1 : 2 * r < c
    · rw [if_pos h1, if_neg (by omega)]; omega
    · by_cases h2 : c < 2 * r
      · rw [if_neg h1, if_pos h2, if_pos (Or.inl h2)]
      · rw [if_neg h1, if_neg h2]
        by_cases h3 : q % 2 = 0
        · rw [if_pos h3, if_neg (by omega)]; omega
        · rw [if_neg h3, if_pos (by omega)]
  cases neg
  · simp only [sg] at *; simp at hs; rw [hs]; simpa using key
  · simp only [sg] at *; simp at hs; rw [hs, even_neg s c hc, key]; simp

/-- what Floor and Even answer -/
def flV (p c : Int) : Int := if c ≤ 0 then 0 else cutV (p / c)
def flE (p c : Int) : Int := if c ≤ 0 then 12 else cutE (p / c)
def evV (p c : Int) : Int := if c ≤ 0 then 0 else cutV (evenI p c)
def evE (p c : Int) : Int := if c ≤ 0 then 12 else cutE (evenI p c)

/-- which of two is greater -/
def cmpI (a b : Int) : Int := if a < b then -1 else if b < a then 1 else 0

theorem cmp_halves (p q : Int) (h : p / 18446744073709551616 ≠ q / 18446744073709551616) : cmpI (p / 18446744073709551616) (q / 18446744073709551616) = cmpI p q := by
  unfold cmpI
  split <;> split <;> (try split) <;> omega
theorem cmp_low (p q : Int) (h : p / 18446744073709551616 = q / 18446744073709551616) : cmpI (p % 18446744073709551616) (q % 18446744073709551616) = cmpI p q := by
  unfold cmpI
  split <;> split <;> (try split) <;> omega

end Go.Proofs.Ytaebbfaheaghfaa
