/- What the operations on floats give, in units. -/
import Derived.Test.YtgokihclfdkgeaaRtF
namespace Go.Proofs.Ytgokihclfdkgeaa
open Ieee

def U : Nat := 2 ^ 1074
theorem U_pos : 0 < U := by unfold U; exact Nat.two_pow_pos 1074

theorem nearest_shift (neg : Bool) (c s : Nat) (p : Int) : double.nearest neg (c * 2 ^ s) (p - s) = double.nearest neg c p := by
  unfold Format.nearest
  by_cases h : c = 0
  · subst h; simp
  · have h2 : c * 2 ^ s ≠ 0 := Nat.mul_ne_zero h (Nat.ne_of_gt (Nat.two_pow_pos _))
    rw [if_neg h, if_neg h2]
    simp only [lp_eq, bin_eq, inf_eq, cut_rnd, shl, log2_mul c s h]
    have e1 : p - (s : Int) + ((c.log2 + s : Nat) : Int) - (double.fractionBits : Int) = p + (c.log2 : Int) - (double.fractionBits : Int) := by omega
    rw [e1]
    generalize max (p + (c.log2 : Int) - (double.fractionBits : Int)) (-1074) = last
    have e5 : rnd (c * 2 ^ s * 2 ^ (p - (s : Int) - last).toNat) (2 ^ (last - (p - (s : Int))).toNat) = rnd (c * 2 ^ (p - last).toNat) (2 ^ (last - p).toNat) := by
      rw [← rnd_scale (c * 2 ^ (p - last).toNat) _ (2 ^ ((last - (p - (s : Int))).toNat - (last - p).toNat)) (Nat.two_pow_pos _)]
      congr 1
      · rw [Nat.mul_assoc, ← Nat.pow_add, Nat.mul_assoc, ← Nat.pow_add]; congr 2; omega
      · rw [← Nat.pow_add]; congr 1; omega
    rw [e5]

theorem word_f (r : Nat) : double.word false r = r := rfl
theorem word_t (r : Nat) : double.word true r = 9223372036854775808 + r := by unfold Format.word; rw [sw_eq]; rfl

theorem read_two : double.read 4611686018427387904 = .number false 4503599627370496 (-51) := by decide +kernel
theorem read_hundred : double.read 4636737291354636288 = .number false 7036874417766400 (-46) := by decide +kernel
theorem mul_two (x : Nat) (h : x < infW) : double.mul x 4611686018427387904 = some (R (2 * V x)) := by
  obtain ⟨m, k, h1, h2⟩ := read_pos x h
  unfold Format.mul
  rw [h1, read_two, h2]
  simp only [Datum.product, Option.map_some, Format.write, Bool.false_bne]
  have e : m * 4503599627370496 = 2 * m * 2 ^ 51 := by omega
  have e2 : (-1074 + (k : Int)) + -51 = (-1074 + (k : Int)) - ((51 : Nat) : Int) := by omega
  rw [e, e2, nearest_shift, nearest_R, word_f, Nat.mul_assoc]
theorem mul_hundred (x : Nat) (h : x < infW) : double.mul 4636737291354636288 x = some (R (100 * V x)) := by
  obtain ⟨m, k, h1, h2⟩ := read_pos x h
  unfold Format.mul
  rw [h1, read_hundred, h2]
  simp only [Datum.product, Option.map_some, Format.write, Bool.false_bne]
  have e : 7036874417766400 * m = 100 * m * 2 ^ 46 := by omega
  have e2 : -46 + (-1074 + (k : Int)) = (-1074 + (k : Int)) - ((46 : Nat) : Int) := by omega
  rw [e, e2, nearest_shift, nearest_R, word_f, Nat.mul_assoc]

theorem sub_pos (x y : Nat) (hx : x < infW) (hy : y < infW) : double.sub x y = some (double.word (decide (V x < V y)) (R ((V x - V y) + (V y - V x)))) := by
  obtain ⟨m, k, h1, h2⟩ := read_pos x hx
  obtain ⟨n, l, h3, h4⟩ := read_pos y hy
  unfold Format.sub
  rw [h1, h3, h2, h4]
  simp only [Datum.opposite, Datum.sum, Option.map_some, Format.write, base_min, up_l, up_r, signed, Bool.false_eq_true, if_false, Bool.not_false, if_true, shl, Bool.and_true, nearest_R]
  rw [← pow_min m k (min k l) (Nat.min_le_left ..), ← pow_min n l (min k l) (Nat.min_le_right ..)]
  generalize m * 2 ^ (k - min k l) = a
  generalize n * 2 ^ (l - min k l) = b
  have hc : 0 < 2 ^ min k l := Nat.two_pow_pos _
  generalize 2 ^ min k l = c at *
  have e1 : (a * c < b * c) = (a < b) := by rw [Nat.mul_lt_mul_right hc]
  have e2 : ((a : Int) + -(b : Int)).natAbs * c = a * c - b * c + (b * c - a * c) := by
    rw [← Nat.sub_mul, ← Nat.sub_mul, ← Nat.add_mul]; congr 1; omega
  rw [e2]
  congr 2
  simp only [e1]
  by_cases h0 : (a : Int) + -(b : Int) = 0
  · rw [if_pos h0]; simp; omega
  · rw [if_neg h0]; rw [decide_eq_decide]; omega

theorem sub_le (x y : Nat) (hx : x < infW) (hy : y < infW) (h : V y ≤ V x) : double.sub x y = some (R (V x - V y)) := by
  rw [sub_pos x y hx hy]
  have e : decide (V x < V y) = false := by simp; omega
  have e2 : V y - V x = 0 := by omega
  rw [e, word_f, e2, Nat.add_zero]

theorem ofInt_R (n : Nat) : floatOfInt .f64 (n : Int) = R (n * U) := by
  unfold floatOfInt FloatKind.nearest FloatKind.encode
  have e : decide ((n : Int) < 0) = false := by simp
  rw [e]
  show double.nearest false n 0 = _
  have e2 : (0 : Int) = -1074 + ((1074 : Nat) : Int) := by decide
  rw [e2, nearest_R, word_f]
  unfold U
  with_reducible rfl

theorem cut_zero (neg : Bool) (n drop : Nat) : Toward.zero.cut neg n drop = n / 2 ^ drop := by
  unfold Toward.cut
  simp only [Nat.one_shiftLeft, Bool.toNat_false, Nat.add_zero]
  by_cases h : drop ≤ n.log2 + 2
  · rw [Nat.min_eq_left h]
  · rw [Nat.min_eq_right (by omega)]
    have hn : n < 2 ^ (n.log2 + 1) := Nat.lt_log2_self
    have h1 : 2 ^ (n.log2 + 1) ≤ 2 ^ (n.log2 + 2) := Nat.pow_le_pow_right (by decide) (by omega)
    have h2 : 2 ^ (n.log2 + 2) ≤ 2 ^ drop := Nat.pow_le_pow_right (by decide) (by omega)
    rw [Nat.div_eq_of_lt (by omega), Nat.div_eq_of_lt (by omega)]

theorem toInt_pos (x : Nat) (h : x < infW) : (FloatKind.f64.decode x).toInt .zero = some ((V x / U : Nat) : Int) := by
  obtain ⟨m, k, h1, h2⟩ := read_pos x h
  unfold FloatKind.decode
  show (double.read x).toInt .zero = _
  rw [h1, h2]
  simp only [Datum.toInt, Datum.integral, cut_zero, shl, signed, Bool.false_eq_true, if_false, Nat.pow_zero, Nat.mul_one]
  have e1 : (-1074 + (k : Int)).toNat = k - 1074 := by omega
  have e2 : (-(-1074 + (k : Int))).toNat = 1074 - k := by omega
  rw [e1, e2]
  have e3 : m * 2 ^ (k - 1074) / 2 ^ (1074 - k) = m * 2 ^ k / U := by
    unfold U
    rw [← Nat.mul_div_mul_right _ _ (Nat.two_pow_pos (min k 1074)), Nat.mul_assoc, ← Nat.pow_add, ← Nat.pow_add]
    have e4 : k - 1074 + min k 1074 = k := by omega
    have e5 : 1074 - k + min k 1074 = 1074 := by omega
    rw [e4, e5]
  rw [e3]

theorem V_lt {x y : Nat} (h : x < y) : V x < V y := by
  unfold V
  by_cases hx : x < 4503599627370496
  · rw [if_pos hx]
    by_cases hy : y < 4503599627370496
    · rw [if_pos hy]; exact h
    · rw [if_neg hy]
      have : 1 ≤ 2 ^ (y / 4503599627370496 - 1) := Nat.two_pow_pos _
      have := Nat.mul_le_mul_left (4503599627370496 + y % 4503599627370496) this
      omega
  · have hy : ¬ y < 4503599627370496 := by omega
    rw [if_neg hx, if_neg hy]
    by_cases he : x / 4503599627370496 = y / 4503599627370496
    · rw [he]
      exact Nat.mul_lt_mul_of_pos_right (by omega) (Nat.two_pow_pos _)
    · have hle : x / 4503599627370496 < y / 4503599627370496 := by omega
      have h1 : 2 ^ (x / 4503599627370496 - 1) * 2 ≤ 2 ^ (y / 4503599627370496 - 1) := by
        rw [← Nat.pow_succ]; exact Nat.pow_le_pow_right (by decide) (by omega)
      have hp : 0 < 2 ^ (x / 4503599627370496 - 1) := Nat.two_pow_pos _
      have h2 : (4503599627370496 + x % 4503599627370496) * 2 ^ (x / 4503599627370496 - 1) < 9007199254740992 * 2 ^ (x / 4503599627370496 - 1) := Nat.mul_lt_mul_of_pos_right (by omega) hp
      have h3 : 4503599627370496 * 2 ^ (y / 4503599627370496 - 1) ≤ (4503599627370496 + y % 4503599627370496) * 2 ^ (y / 4503599627370496 - 1) := Nat.mul_le_mul_right _ (by omega)
      omega
theorem V_le {x y : Nat} (h : x ≤ y) : V x ≤ V y := by
  rcases Nat.lt_or_eq_of_le h with h | h
  · exact Nat.le_of_lt (V_lt h)
  · rw [h]; exact Nat.le_refl _

def W100 : Nat := 4636737291354636288
theorem V_hundred : V W100 = 100 * U := by decide +kernel
theorem V_zero : V 0 = 0 := rfl
theorem hundred_U : 100 * U < 2 ^ 1081 := by decide +kernel

def ge0 (x : Nat) : Bool := double.order x 0 == some .gt || double.order x 0 == some .eq
def le100 (x : Nat) : Bool := double.order x 4636737291354636288 == some .lt || double.order x 4636737291354636288 == some .eq

theorem ge0_pos {x : Nat} (h : x < infW) : ge0 x = true := by
  unfold ge0
  rw [order_pos x 0 h (by decide), V_zero]
  rcases Nat.eq_zero_or_pos (V x) with e | e
  · rw [e]; rfl
  · rw [Nat.compare_eq_gt.2 e]; rfl
theorem le100_pos {x : Nat} (h : x < infW) : le100 x = decide (x ≤ W100) := by
  unfold le100
  rw [order_pos x _ h (by decide)]
  show (some (compare (V x) (V W100)) == some .lt || some (compare (V x) (V W100)) == some .eq) = _
  by_cases hx : x ≤ W100
  · have := V_le hx
    rw [decide_eq_true hx]
    rcases Nat.lt_or_eq_of_le this with h1 | h1
    · rw [Nat.compare_eq_lt.2 h1]; rfl
    · rw [h1, Nat.compare_eq_eq.2 rfl]; rfl
  · have := V_lt (Nat.lt_of_not_le hx)
    rw [decide_eq_false hx, Nat.compare_eq_gt.2 this]; rfl
theorem ge0_minus : ge0 9223372036854775808 = true := by decide +kernel
theorem le100_minus : le100 9223372036854775808 = true := by decide +kernel

theorem order_nan_l (x y : Nat) (s : Bool) (t : Nat) (h : double.read x = .nan s t) : double.order x y = none := by
  unfold Format.order; rw [h]; cases double.read y <;> rfl
theorem guard_no {x : Nat} (hx : x < 18446744073709551616) (h1 : ¬ x ≤ W100) (h2 : x ≠ 9223372036854775808) : ge0 x = false ∨ le100 x = false := by
  unfold W100 at h1
  by_cases ha : x < infW
  · right; rw [le100_pos ha]; unfold W100; simp; omega
  · unfold infW at ha
    by_cases hb : x < 9223372036854775808
    · by_cases hc : x = 9218868437227405312
      · subst hc; right; decide +kernel
      · left
        have hr : double.read x = .nan false (x - 9218868437227405312) := by
          unfold Format.read
          simp only [bin_eq, inf_eq, sw_eq, lp_eq, infW]
          have e1 : x % 9223372036854775808 = x := Nat.mod_eq_of_lt (by omega)
          have e2 : x / 9223372036854775808 = 0 := Nat.div_eq_of_lt (by omega)
          rw [e1, e2, if_neg (by omega), if_neg (by omega), if_neg (by omega)]; rfl
        unfold ge0
        rw [order_nan_l x 0 _ _ hr]; rfl
    · left
      have e2 : x / 9223372036854775808 = 1 := by omega
      unfold ge0
      have h0 : double.read 0 = .number false 0 (-1074) := by decide +kernel
      have hs : (x / 9223372036854775808 % 2 == 1) = true := by rw [e2]; rfl
      have key : double.order x 0 = some .lt ∨ double.order x 0 = none := by
        unfold Format.order
        rw [h0]
        unfold Format.read
        simp only [sw_eq, hs, bin_eq, inf_eq, lp_eq, infW]
        split
        · left
          simp only [Datum.order, signed, if_true, Int.min_self, Int.sub_self, Int.toNat_zero, Nat.shiftLeft_zero, Bool.false_eq_true, if_false]
          congr 1
          exact Int.compare_eq_lt.2 (by omega)
        · split
          · left
            simp only [Datum.order, signed, if_true, Bool.false_eq_true, if_false, shl, Nat.zero_mul]
            congr 1
            refine Int.compare_eq_lt.2 ?_
            generalize ((-1074 + ((x % 9223372036854775808 / 4503599627370496 - 1 : Nat) : Int)) - min (-1074 + ((x % 9223372036854775808 / 4503599627370496 - 1 : Nat) : Int)) (-1074)).toNat = q
            have hq : 1 ≤ 2 ^ q := Nat.two_pow_pos _
            have := Nat.mul_le_mul_left (4503599627370496 + x % 9223372036854775808 % 4503599627370496) hq
            omega
          · split
            · left; rfl
            · right; rfl
      rcases key with h | h <;> rw [h] <;> rfl
end Go.Proofs.Ytgokihclfdkgeaa
