/- Points rise; how far a float's hundredfold is from them. -/
import Derived.Test.YtgokihclfdkgeaaRtP
namespace Go.Proofs.Ytgokihclfdkgeaa
open Go.RowKit Ieee

theorem rnd_mono {m n g : Nat} (h : m ≤ n) : rnd m g ≤ rnd n g := by
  have hd : m / g ≤ n / g := Nat.div_le_div_right h
  have h1 := rnd_le m g
  have h2 := rnd_le n g
  rcases Nat.lt_or_eq_of_le hd with hlt | heq
  · omega
  · have e1 := Nat.div_add_mod m g
    have e2 := Nat.div_add_mod n g
    rw [heq] at e1
    have hm : m % g ≤ n % g := by omega
    rcases Nat.lt_trichotomy (2 * (m % g)) g with k | k | k
    · rw [rnd_lo k]; omega
    · rcases Nat.lt_or_eq_of_le hm with q | q
      · rw [rnd_hi (n := n) (by omega)]; omega
      · rw [rnd_mid k.symm, rnd_mid (n := n) (by omega), heq]; omega
    · rw [rnd_hi k, rnd_hi (n := n) (by omega), heq]; omega
theorem rnd_near (n g : Nat) (hg : 0 < g) : 2 * (rnd n g * g) ≤ 2 * n + g ∧ 2 * n ≤ 2 * (rnd n g * g) + g := by
  have e := Nat.div_add_mod n g
  have hm := Nat.mod_lt n hg
  rcases Nat.lt_trichotomy (2 * (n % g)) g with k | k | k
  · rw [rnd_lo k, Nat.mul_comm (n / g) g]; omega
  · rw [rnd_mid k.symm]
    rcases Nat.mod_two_eq_zero_or_one (n / g) with h | h
    · rw [h, Nat.add_zero, Nat.mul_comm (n / g) g]; omega
    · rw [h, Nat.add_mul, Nat.one_mul, Nat.mul_comm (n / g) g]; omega
  · rw [rnd_hi k, Nat.add_mul, Nat.one_mul, Nat.mul_comm (n / g) g]; omega

def okW (x : Nat) : Prop := x ≤ W100 ∨ x = 9223372036854775808
/-- minus zero is zero -/
def nz (x : Nat) : Nat := if x ≤ W100 then x else 0
theorem nz_le (x : Nat) : nz x ≤ W100 := by
  unfold nz; split
  · assumption
  · exact Nat.zero_le _
theorem W_inf {x : Nat} (h : x ≤ W100) : x < infW := by unfold W100 at h; unfold infW; omega
theorem pts_nz {x : Nat} : pts x = rnd (100 * V (nz x)) U := by
  unfold pts nz
  split
  · rfl
  · rw [V_zero, Nat.mul_zero, rnd_zero _ _ (by have := U_pos; omega)]
theorem read_minus : double.read 9223372036854775808 = .number true 0 (-1074) := by decide +kernel
theorem read_zero : double.read 0 = .number false 0 (-1074) := by decide +kernel
theorem sg_zero (s : Bool) (k : Nat) : signed s 0 k = 0 := by cases s <;> simp [signed]
theorem order_nz_l (y : Nat) : double.order 9223372036854775808 y = double.order 0 y := by
  unfold Format.order
  rw [read_minus, read_zero]
  cases double.read y <;> simp [Datum.order, sg_zero]
theorem order_nz_r (y : Nat) : double.order y 9223372036854775808 = double.order y 0 := by
  unfold Format.order
  rw [read_minus, read_zero]
  cases double.read y <;> simp [Datum.order, sg_zero]
theorem order_ok {a b : Nat} (ha : okW a) (hb : okW b) : double.order a b = some (compare (V (nz a)) (V (nz b))) := by
  have h1 : double.order a b = double.order (nz a) b := by
    rcases ha with h | h
    · unfold nz; rw [if_pos h]
    · subst h; rw [order_nz_l]; rfl
  have h2 : double.order (nz a) b = double.order (nz a) (nz b) := by
    rcases hb with h | h
    · unfold nz; rw [if_pos h]
    · subst h; rw [order_nz_r]; rfl
  rw [h1, h2]
  exact order_pos _ _ (W_inf (nz_le a)) (W_inf (nz_le b))

/-- which way two floats stand, and their points -/
theorem rise (a b : Nat) (ha : okW a) (hb : okW b) : (FloatKind.f64.format.order a b = some .lt ∧ pts a ≤ pts b) ∨ (FloatKind.f64.format.order a b = some .gt ∧ pts b ≤ pts a) ∨ (FloatKind.f64.format.order a b = some .eq ∧ pts a = pts b) := by
  have h := order_ok ha hb
  rw [pts_nz, pts_nz]
  rcases Nat.lt_trichotomy (V (nz a)) (V (nz b)) with k | k | k
  · left
    exact ⟨h.trans (by rw [Nat.compare_eq_lt.2 k]), rnd_mono (by omega)⟩
  · right; right
    exact ⟨h.trans (by rw [Nat.compare_eq_eq.2 k]), by rw [k]⟩
  · right; left
    exact ⟨h.trans (by rw [Nat.compare_eq_gt.2 k]), rnd_mono (by omega)⟩

theorem pow_dvd {a b : Nat} (h : a ≤ b) : (2 : Nat) ^ a ∣ 2 ^ b := Nat.pow_dvd_pow 2 h
theorem rep_int (n : Nat) (h : n ≤ 10000) : Rep (n * U) := by
  unfold Rep
  by_cases hz : n = 0
  · rw [hz, Nat.zero_mul]; exact Nat.dvd_zero _
  · unfold U
    rw [log2_mul n 1074 hz]
    have := log2_lt (n := 14) (D := n) (by omega) hz
    have hd := pow_dvd (a := n.log2 + 1074 - 52) (b := 1074) (by omega)
    generalize (2 : Nat) ^ 1074 = p at *
    exact Nat.dvd_trans hd (Nat.dvd_mul_left _ _)
theorem big_1 : 10000 * U < 2 ^ 1088 := by decide +kernel
theorem pow_mono {a b : Nat} (h : a ≤ b) : (2 : Nat) ^ a ≤ 2 ^ b := Nat.pow_le_pow_right (by decide) h
theorem big_2 : (2 : Nat) ^ 1088 ≤ 2 ^ 2000 := pow_mono (a := 1088) (b := 2000) (by decide)
def C5 : Nat := 4602678820073366837
theorem big_3 : U + 2 ^ 1036 + 2 ^ 1022 ≤ 2 * V C5 := by decide +kernel
theorem big_4 : U + 2 ^ 1036 < 2 * 2 ^ 1074 := by decide +kernel
theorem pow2 (n : Nat) : 2 * 2 ^ n = 2 ^ (n + 1) := by rw [Nat.pow_succ, Nat.mul_comm]
theorem ulp_le {D : Nat} (m n : Nat) (h : D < 2 ^ m) (hm : m = n + 53) : 2 ^ (D.log2 - 52) ≤ 2 ^ n := by
  refine Nat.pow_le_pow_right (by decide) ?_
  by_cases hz : D = 0
  · subst hz; exact Nat.le_trans (by decide) (Nat.zero_le _)
  · have := log2_lt h hz; omega

/-- what the law asks of a hundred times the float -/
theorem far_ok (a : Nat) (ha : a ≤ W100) : ∃ r t s : Nat, floatBits .mul .f64 4636737291354636288 a = some r ∧ floatBits .sub .f64 r (floatOfInt .f64 ((pts a : Nat) : Int)) = some t ∧ t < 18446744073709551616 ∧ s = t % 9223372036854775808 ∧ s < infW ∧ V s ≤ V C5 := by
  have hi := W_inf ha
  have hV : V a ≤ 100 * U := by have := V_le ha; rw [V_hundred] at this; exact this
  have b1 := big_1
  have b2 := big_2
  have hA : 100 * V a < 2 ^ 1088 := by omega
  have hp : pts a ≤ 10000 := by
    have := rnd_mono (g := U) (show 100 * V a ≤ 10000 * U by omega)
    have e : rnd (10000 * U) U = 10000 := by rw [rnd_lo (by rw [Nat.mul_mod_left]; have := U_pos; omega), Nat.mul_div_cancel _ U_pos]
    unfold pts
    rw [if_pos ha]
    omega
  have hrw := V_R (100 * V a) (by omega)
  have hnear := V_R_near (100 * V a) (by omega)
  have hulp := ulp_le 1088 1035 hA rfl
  have hx : pts a * U < 2 ^ 2000 := by
    have : pts a * U ≤ 10000 * U := Nat.mul_le_mul_right _ hp
    omega
  have hxr := V_R_rep hx (rep_int _ hp)
  have hxi := (V_R _ hx).1
  have hnr := rnd_near (100 * V a) U U_pos
  have hpe : pts a = rnd (100 * V a) U := by unfold pts; rw [if_pos ha]
  rw [← hpe] at hnr
  have hsub := sub_pos (R (100 * V a)) (R (pts a * U)) hrw.1 hxi
  rw [hxr] at hsub
  generalize V (R (100 * V a)) = B at *
  obtain ⟨D, hD⟩ : ∃ D, D = B - pts a * U + (pts a * U - B) := ⟨_, rfl⟩
  rw [← hD] at hsub
  have b3 := big_3
  have b4 := big_4
  have p1 := pow2 1035
  have hD2 : 2 * D ≤ U + 2 ^ 1036 := by omega
  have hD3 : D < 2 ^ 1074 := by omega
  have hDr := V_R D (Nat.lt_of_lt_of_le hD3 (pow_mono (a := 1074) (b := 2000) (by decide)))
  have hDn := V_R_near D (Nat.lt_of_lt_of_le hD3 (pow_mono (a := 1074) (b := 2000) (by decide)))
  have hDu := ulp_le 1074 1021 hD3 rfl
  have p2 := pow2 1021
  refine ⟨R (100 * V a), double.word (decide (B < pts a * U)) (R D), R D, mul_hundred a hi, ?_, ?_, ?_, hDr.1, by omega⟩
  · rw [ofInt_R]; exact hsub
  · have := hDr.1
    unfold infW at this
    cases decide (B < pts a * U)
    · rw [word_f]; omega
    · rw [word_t]; omega
  · have := hDr.1
    unfold infW at this
    cases decide (B < pts a * U)
    · rw [word_f]; omega
    · rw [word_t]; omega
theorem far_minus : floatBits .mul .f64 4636737291354636288 9223372036854775808 = some 9223372036854775808 ∧ floatBits .sub .f64 9223372036854775808 (floatOfInt .f64 0) = some 9223372036854775808 := by
  constructor <;> decide +kernel
theorem far_any (a : Nat) (ha : okW a) : ∃ r t s : Nat, floatBits .mul .f64 4636737291354636288 a = some r ∧ floatBits .sub .f64 r (floatOfInt .f64 ((pts a : Nat) : Int)) = some t ∧ t < 18446744073709551616 ∧ s = t % 9223372036854775808 ∧ s < infW ∧ V s ≤ V C5 := by
  rcases ha with h | h
  · exact far_ok a h
  · subst h
    have e : pts 9223372036854775808 = 0 := by decide +kernel
    rw [e]
    exact ⟨_, _, 0, far_minus.1, far_minus.2, by decide, by decide, by decide, Nat.zero_le _⟩
theorem le_five {s : Nat} (h : s < infW) (hv : V s ≤ V C5) : (FloatKind.f64.format.order s 4602678820073366837 == some .lt || FloatKind.f64.format.order s 4602678820073366837 == some .eq) = true := by
  have e : FloatKind.f64.format.order s 4602678820073366837 = some (compare (V s) (V C5)) := order_pos s C5 h (by decide)
  rw [e]
  rcases Nat.lt_or_eq_of_le hv with k | k
  · rw [Nat.compare_eq_lt.2 k]; rfl
  · rw [Nat.compare_eq_eq.2 k]; rfl
theorem abs_bits (t : Nat) (h : t < 18446744073709551616) : bits .andNot .u64 (t : Int) 9223372036854775808 = ((t % 9223372036854775808 : Nat) : Int) := by
  have h1 : (BitVec.ofInt 64 (t : Int)).toNat = t := by
    rw [BitVec.ofInt_natCast, BitVec.toNat_ofNat]; exact Nat.mod_eq_of_lt (by omega)
  have h2 : (~~~ BitVec.ofInt 64 9223372036854775808).toNat = 2 ^ 63 - 1 := by decide
  show IntKind.u64.wrap ((BitVec.ofInt 64 (t : Int) &&& ~~~ BitVec.ofInt 64 9223372036854775808).toNat : Int) = _
  rw [BitVec.toNat_and, h1, h2, Nat.and_two_pow_sub_one_eq_mod, IntKind.wrap_u64]
  omega
set_option maxHeartbeats 800000 in
theorem abs_any (t : Nat) (w : World) (h : t < 18446744073709551616) : Calls Try.prog 27 #[.float .f64 t] w fun e w' => e = .returned (.float .f64 (t % 9223372036854775808)) ∧ w = w' := by
  have hb := abs_bits t h
  obtain ⟨s, hs⟩ : ∃ s, s = t % 9223372036854775808 := ⟨_, rfl⟩
  rw [← hs] at hb ⊢
  clear hs
  go_enter Try.func27, Try.ntmps27
  go_wp2_with (first | simp only [f64bits] | simp only [f64from])
  go_ret
  exact ⟨rfl, rfl⟩
end Go.Proofs.Ytgokihclfdkgeaa
