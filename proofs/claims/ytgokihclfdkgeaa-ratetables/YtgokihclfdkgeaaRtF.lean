/- Floats of 64 bits as whole numbers of units of two to the power of -1074. -/
import Derived.Laws.FloatArith
namespace Go.Proofs.Ytgokihclfdkgeaa
open Ieee

/-- to the nearest, of two as near to the even one -/
def rnd (n g : Nat) : Nat := n / g + (decide (g < 2 * (n % g)) || (g == 2 * (n % g) && n / g % 2 == 1)).toNat

theorem rnd_one (n : Nat) : rnd n 1 = n := by unfold rnd; simp [Nat.mod_one]
theorem rnd_scale (n g c : Nat) (hc : 0 < c) : rnd (n * c) (g * c) = rnd n g := by
  unfold rnd
  rw [Nat.mul_div_mul_right _ _ hc, Nat.mul_mod_mul_right, ← Nat.mul_assoc]
  have h1 : (g * c < 2 * (n % g) * c) = (g < 2 * (n % g)) := by rw [Nat.mul_lt_mul_right hc]
  have h2 : (g * c == 2 * (n % g) * c) = (g == 2 * (n % g)) := by
    rw [Bool.eq_iff_iff]; simp only [beq_iff_eq]
    exact ⟨fun h => Nat.eq_of_mul_eq_mul_right hc h, fun h => congrArg (· * c) h⟩
  rw [h2]
  simp only [h1]
theorem rnd_zero (n g : Nat) (h : 2 * n < g) : rnd n g = 0 := by
  unfold rnd
  have h1 : n / g = 0 := Nat.div_eq_of_lt (by omega)
  have h2 : n % g = n := Nat.mod_eq_of_lt (by omega)
  rw [h1, h2]
  have h3 : ¬ g < 2 * n := by omega
  simp [h3]
theorem rnd_le (n g : Nat) : n / g ≤ rnd n g ∧ rnd n g ≤ n / g + 1 := by
  unfold rnd
  have := Bool.toNat_le (decide (g < 2 * (n % g)) || (g == 2 * (n % g) && n / g % 2 == 1))
  omega
/-- by cases -/
theorem rnd_lo {n g : Nat} (h : 2 * (n % g) < g) : rnd n g = n / g := by
  unfold rnd
  have h3 : ¬ g < 2 * (n % g) := by omega
  have h4 : ¬ g = 2 * (n % g) := by omega
  simp [h3, h4]
theorem rnd_hi {n g : Nat} (h : g < 2 * (n % g)) : rnd n g = n / g + 1 := by
  unfold rnd
  simp [h]
theorem rnd_mid {n g : Nat} (h : g = 2 * (n % g)) : rnd n g = n / g + n / g % 2 := by
  unfold rnd
  have h3 : ¬ g < 2 * (n % g) := by omega
  have h4 : (g == 2 * (n % g)) = true := by simpa using h
  have h5 : decide (g < 2 * (n % g)) = false := by simp [h3]
  rw [h5, h4]
  rcases Nat.mod_two_eq_zero_or_one (n / g) with h6 | h6 <;> rw [h6] <;> rfl

theorem cut_rnd (neg : Bool) (n drop : Nat) : Toward.even.cut neg n drop = rnd n (2 ^ drop) := by
  unfold Toward.cut
  simp only [Nat.one_shiftLeft]
  by_cases h : drop ≤ n.log2 + 2
  · rw [Nat.min_eq_left h]; rfl
  · rw [Nat.min_eq_right (by omega)]
    have hn : n < 2 ^ (n.log2 + 1) := Nat.lt_log2_self
    have h1 : 2 * n < 2 ^ (n.log2 + 2) := by rw [Nat.pow_succ]; omega
    have h2 : 2 ^ (n.log2 + 2) ≤ 2 ^ drop := Nat.pow_le_pow_right (by decide) (by omega)
    rw [rnd_zero n (2 ^ drop) (by omega)]
    exact rnd_zero n (2 ^ (n.log2 + 2)) h1

/-- the number of units -/
def V (x : Nat) : Nat := if x < 4503599627370496 then x else (4503599627370496 + x % 4503599627370496) * 2 ^ (x / 4503599627370496 - 1)

def infW : Nat := 9218868437227405312
theorem bin_eq : double.binade = 4503599627370496 := by decide
theorem inf_eq : double.infRung = infW := by decide +kernel
theorem sw_eq : double.signWeight = 9223372036854775808 := by decide
theorem lp_eq : double.leastPlace = -1074 := by decide

theorem read_pos (x : Nat) (h : x < infW) : ∃ m k : Nat, double.read x = .number false m (-1074 + (k : Int)) ∧ V x = m * 2 ^ k := by
  unfold infW at h
  unfold Format.read V
  simp only [bin_eq, inf_eq, sw_eq, lp_eq, infW]
  have h1 : x % 9223372036854775808 = x := Nat.mod_eq_of_lt (by omega)
  have h2 : x / 9223372036854775808 = 0 := Nat.div_eq_of_lt (by omega)
  rw [h1, h2]
  by_cases hx : x < 4503599627370496
  · rw [if_pos hx, if_pos hx]
    exact ⟨x, 0, by simp, by simp⟩
  · rw [if_neg hx, if_neg hx, if_pos h]
    exact ⟨_, _, rfl, rfl⟩

theorem shl (a k : Nat) : a <<< k = a * 2 ^ k := Nat.shiftLeft_eq a k
theorem base_min (k l : Nat) : min (-1074 + (k : Int)) (-1074 + (l : Int)) = -1074 + ((min k l : Nat) : Int) := by omega
theorem up_l (k l : Nat) : (-1074 + (k : Int) - (-1074 + ((min k l : Nat) : Int))).toNat = k - min k l := by omega
theorem up_r (k l : Nat) : (-1074 + (l : Int) - (-1074 + ((min k l : Nat) : Int))).toNat = l - min k l := by omega
theorem pow_min (a k m : Nat) (h : m ≤ k) : a * 2 ^ (k - m) * 2 ^ m = a * 2 ^ k := by
  rw [Nat.mul_assoc, ← Nat.pow_add, Nat.sub_add_cancel h]

theorem cmp_scale (a b c : Nat) (h : 0 < c) : compare ((a : Nat) : Int) ((b : Nat) : Int) = compare (a * c) (b * c) := by
  rcases Nat.lt_trichotomy a b with h1 | h1 | h1
  · have h2 : a * c < b * c := Nat.mul_lt_mul_of_pos_right h1 h
    rw [Nat.compare_eq_lt.2 h2]; exact Int.compare_eq_lt.2 (by omega)
  · subst h1
    rw [Nat.compare_eq_eq.2 rfl]; exact Int.compare_eq_eq.2 rfl
  · have h2 : b * c < a * c := Nat.mul_lt_mul_of_pos_right h1 h
    rw [Nat.compare_eq_gt.2 h2]; exact Int.compare_eq_gt.2 (by omega)

theorem order_pos (x y : Nat) (hx : x < infW) (hy : y < infW) : double.order x y = some (compare (V x) (V y)) := by
  obtain ⟨m, k, h1, h2⟩ := read_pos x hx
  obtain ⟨n, l, h3, h4⟩ := read_pos y hy
  unfold Format.order
  rw [h1, h3, h2, h4]
  unfold Datum.order
  simp only [base_min, up_l, up_r, signed, Bool.false_eq_true, if_false, shl]
  rw [cmp_scale _ _ (2 ^ min k l) (Nat.two_pow_pos _), pow_min _ _ _ (Nat.min_le_left ..), pow_min _ _ _ (Nat.min_le_right ..)]

/-- the word of as many units, rounded -/
def R (D : Nat) : Nat := min ((D.log2 - 52) * 4503599627370496 + rnd D (2 ^ (D.log2 - 52))) infW

theorem log2_mul (m k : Nat) (h : m ≠ 0) : (m * 2 ^ k).log2 = m.log2 + k := by
  induction k with
  | zero => simp
  | succ k ih => rw [Nat.pow_succ, ← Nat.mul_assoc, Nat.mul_comm _ 2, Nat.log2_two_mul (Nat.mul_ne_zero h (Nat.ne_of_gt (Nat.two_pow_pos _))), ih]; omega

theorem nearest_R (neg : Bool) (m k : Nat) : double.nearest neg m (-1074 + (k : Int)) = double.word neg (R (m * 2 ^ k)) := by
  unfold Format.nearest
  by_cases h : m = 0
  · subst h; rw [if_pos rfl]; simp [R, rnd]
  · rw [if_neg h]
    simp only [lp_eq, bin_eq, inf_eq, cut_rnd, shl, R, log2_mul m k h]
    have hf : double.fractionBits = 52 := rfl
    have e1 : max (-1074 + (k : Int) + (m.log2 : Int) - (double.fractionBits : Int)) (-1074) = -1074 + ((m.log2 + k - 52 : Nat) : Int) := by rw [hf]; omega
    rw [e1]
    generalize m.log2 + k - 52 = q
    have e2 : (-1074 + (q : Int) - -1074).toNat = q := by omega
    have e3 : (-1074 + (k : Int) - (-1074 + (q : Int))).toNat = k - q := by omega
    have e4 : (-1074 + (q : Int) - (-1074 + (k : Int))).toNat = q - k := by omega
    rw [e2, e3, e4]
    have e5 : rnd (m * 2 ^ (k - q)) (2 ^ (q - k)) = rnd (m * 2 ^ k) (2 ^ q) := by
      rw [← rnd_scale _ _ (2 ^ min k q) (Nat.two_pow_pos _)]
      congr 1
      · rw [Nat.mul_assoc, ← Nat.pow_add]; congr 2; omega
      · rw [← Nat.pow_add]; congr 1; omega
    rw [e5]

theorem log2_lt {D n : Nat} (h : D < 2 ^ n) (h0 : D ≠ 0) : D.log2 < n := (Nat.log2_lt h0).2 h
theorem rung_V (q kept : Nat) (h1 : 4503599627370496 ≤ kept) (h2 : kept ≤ 9007199254740992) : V (q * 4503599627370496 + kept) = kept * 2 ^ q := by
  unfold V
  rw [if_neg (by omega)]
  by_cases h : kept = 9007199254740992
  · subst h
    have e1 : (q * 4503599627370496 + 9007199254740992) % 4503599627370496 = 0 := by omega
    have e2 : (q * 4503599627370496 + 9007199254740992) / 4503599627370496 - 1 = q + 1 := by omega
    rw [e1, e2, Nat.pow_succ]; omega
  · have e1 : (q * 4503599627370496 + kept) % 4503599627370496 = kept - 4503599627370496 := by omega
    have e2 : (q * 4503599627370496 + kept) / 4503599627370496 - 1 = q := by omega
    rw [e1, e2, Nat.add_sub_cancel' h1]

theorem V_R (D : Nat) (h : D < 2 ^ 2000) : R D < infW ∧ V (R D) = rnd D (2 ^ (D.log2 - 52)) * 2 ^ (D.log2 - 52) := by
  by_cases h0 : D < 4503599627370496
  · have hl : D.log2 - 52 = 0 := by
      by_cases hz : D = 0
      · subst hz; rfl
      · have := log2_lt (n := 52) (D := D) (by omega) hz; omega
    have e : R D = D := by unfold R; rw [hl, Nat.pow_zero, rnd_one]; unfold infW; omega
    rw [e, hl, Nat.pow_zero, rnd_one, Nat.mul_one]
    refine ⟨by unfold infW; omega, ?_⟩
    unfold V; rw [if_pos h0]
  · have hne : D ≠ 0 := by omega
    have hq := log2_lt h hne
    have hge : 52 ≤ D.log2 := (Nat.le_log2 hne).2 (by omega)
    have hlo : 2 ^ D.log2 ≤ D := Nat.log2_self_le hne
    have hhi : D < 2 ^ (D.log2 + 1) := Nat.lt_log2_self
    have ep : 2 ^ D.log2 = 4503599627370496 * 2 ^ (D.log2 - 52) := by
      rw [show (4503599627370496 : Nat) = 2 ^ 52 from rfl, ← Nat.pow_add]; congr 1; omega
    rw [Nat.pow_succ] at hhi
    have hpos : 0 < 2 ^ (D.log2 - 52) := Nat.two_pow_pos _
    have hr := rnd_le D (2 ^ (D.log2 - 52))
    have k1 : 4503599627370496 ≤ D / 2 ^ (D.log2 - 52) := (Nat.le_div_iff_mul_le hpos).2 (by omega)
    have k2 : D / 2 ^ (D.log2 - 52) < 9007199254740992 := (Nat.div_lt_iff_lt_mul hpos).2 (by omega)
    have hlt : (D.log2 - 52) * 4503599627370496 + rnd D (2 ^ (D.log2 - 52)) < infW := by unfold infW; omega
    have e : R D = (D.log2 - 52) * 4503599627370496 + rnd D (2 ^ (D.log2 - 52)) := by unfold R; omega
    rw [e]
    exact ⟨hlt, rung_V _ _ (by omega) (by omega)⟩

/-- a float has just so many units -/
def Rep (D : Nat) : Prop := 2 ^ (D.log2 - 52) ∣ D
theorem V_R_rep {D : Nat} (h : D < 2 ^ 2000) (hr : Rep D) : V (R D) = D := by
  rw [(V_R D h).2]
  obtain ⟨c, hc⟩ := hr
  have hpos : 0 < 2 ^ (D.log2 - 52) := Nat.two_pow_pos _
  have h1 : D % 2 ^ (D.log2 - 52) = 0 := Nat.mod_eq_zero_of_dvd ⟨c, hc⟩
  rw [rnd_lo (by omega), Nat.div_mul_cancel ⟨c, hc⟩]

theorem rep_V {x : Nat} (_h : x < infW) : Rep (V x) := by
  unfold Rep V
  by_cases hx : x < 4503599627370496
  · rw [if_pos hx]
    have hl : x.log2 - 52 = 0 := by
      by_cases hz : x = 0
      · subst hz; rfl
      · have := log2_lt (n := 52) (D := x) (by omega) hz; omega
    rw [hl]; exact Nat.one_dvd _
  · rw [if_neg hx]
    rw [log2_mul _ _ (by omega)]
    have hz : 4503599627370496 + x % 4503599627370496 ≠ 0 := by omega
    have := log2_lt (n := 53) (D := 4503599627370496 + x % 4503599627370496) (by omega) hz
    exact Nat.dvd_trans (Nat.pow_dvd_pow 2 (by omega)) (Nat.dvd_mul_left _ _)
theorem rep_small {D E : Nat} (hE : E ≤ D) (hdvd : 2 ^ (D.log2 - 52) ∣ E) : Rep E := by
  unfold Rep
  by_cases hz : E = 0
  · subst hz; exact Nat.dvd_zero _
  · have h1 : E.log2 ≤ D.log2 := by
      have hd : D ≠ 0 := by omega
      exact (Nat.le_log2 hd).2 (Nat.le_trans (Nat.log2_self_le hz) hE)
    exact Nat.dvd_trans (Nat.pow_dvd_pow 2 (by omega)) hdvd
theorem rep_mod {D n : Nat} (hD : Rep D) (hn : D.log2 ≤ n + 52) : Rep (D % 2 ^ n) := by
  refine rep_small (Nat.mod_le _ _) ?_
  exact (Nat.dvd_mod_iff (Nat.pow_dvd_pow 2 (by omega))).2 hD
theorem rep_two {D : Nat} (hD : Rep D) : Rep (2 * D) := by
  by_cases hz : D = 0
  · subst hz; exact Nat.dvd_zero _
  · unfold Rep
    rw [Nat.log2_two_mul hz]
    by_cases h : 52 ≤ D.log2
    · have : D.log2 + 1 - 52 = (D.log2 - 52) + 1 := by omega
      rw [this, Nat.pow_succ, Nat.mul_comm]
      exact Nat.mul_dvd_mul (Nat.dvd_refl 2) hD
    · have : D.log2 + 1 - 52 = 0 := by omega
      rw [this]; exact Nat.one_dvd _
/-- within a unit of the last place -/
theorem V_R_near (D : Nat) (h : D < 2 ^ 2000) : V (R D) ≤ D + 2 ^ (D.log2 - 52) ∧ D ≤ V (R D) + 2 ^ (D.log2 - 52) := by
  rw [(V_R D h).2]
  have hr := rnd_le D (2 ^ (D.log2 - 52))
  have hpos : 0 < 2 ^ (D.log2 - 52) := Nat.two_pow_pos _
  generalize 2 ^ (D.log2 - 52) = g at *
  have e := Nat.div_add_mod D g
  have hm := Nat.mod_lt D hpos
  generalize rnd D g = r at *
  generalize D / g = d at *
  have h1 : d * g ≤ r * g := Nat.mul_le_mul_right g hr.1
  have h2 : r * g ≤ (d + 1) * g := Nat.mul_le_mul_right g hr.2
  rw [Nat.mul_comm g d] at e
  rw [Nat.add_mul, Nat.one_mul] at h2
  omega
end Go.Proofs.Ytgokihclfdkgeaa
