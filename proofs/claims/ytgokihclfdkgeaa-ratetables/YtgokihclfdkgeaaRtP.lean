/- rate.hundredfold, rate.Points. -/
import Derived.Test.YtgokihclfdkgeaaRtG
import Derived.Test.YtgokihclfdkgeaaRows
import Derived.WalkKit
import Derived.WalkSpells
import Derived.WalkLawsBesides
import Derived.Laws.Bits64b
import Derived.Laws.Externs
import Derived.Lib.Hide
namespace Go.Proofs.Ytgokihclfdkgeaa
open Go.RowKit

theorem ret_int {k : IntKind} {a b : Int} (h : a = b) : Ending.returned (.int k a) = .returned (.int k b) := by rw [h]

set_option maxHeartbeats 1000000 in
theorem hundred_small (x e : Nat) (w : World) (_hx : x < 9223372036854775809) (he : e < 1015) (hand : bits .and .u64 ((x : Int) / 4503599627370496) 2047 = (e : Int)) :
    Calls Try.prog 28 #[.int .u64 (x : Int)] w fun r w' => r = .returned (.int .i64 0) ∧ w = w' := by
  go_enter Try.func28, Try.ntmps28
  go_wp2
  go_ret
  exact ⟨rfl, rfl⟩

set_option maxHeartbeats 1000000 in
theorem hundred_great (x e m g r : Nat) (w : World) (_hx : x ≤ 4636737291354636288) (hs1 : 1015 ≤ e) (hs2 : e ≤ 1029) (hand : bits .and .u64 ((x : Int) / 4503599627370496) 2047 = (e : Int))
    (hor : bits .or .u64 (bits .and .u64 (x : Int) 4503599627370495) 4503599627370496 = (m : Int)) (hm : m < 9007199254740992) (hp : (2 : Int) ^ (1075 - e) = (g : Int)) (hg1 : 2 ≤ g) (hg2 : g ≤ 1152921504606846976) (hg : g % 2 = 0)
    (hr : bits .and .u64 ((m : Int) * 100) ((g : Int) - 1) = (r : Int)) (HR : Hid (r = m * 100 % g)) :
    Calls Try.prog 28 #[.int .u64 (x : Int)] w fun r w' => r = .returned (.int .i64 ((rnd (m * 100) g : Nat) : Int)) ∧ w = w' := by
  have hq : m * 100 / g ≤ m * 100 := Nat.div_le_self _ _
  obtain ⟨q, hqe⟩ : ∃ q, m * 100 / g = q := ⟨_, rfl⟩
  have hdiv : (m : Int) * 100 / (g : Int) = (q : Int) := by rw [← hqe, Int.natCast_ediv, Int.natCast_mul]; rfl
  rw [hqe] at hq
  have HQ := Lib.hid hqe
  clear hqe
  have d1 : decide ((60 : Int) < 1075 - (e : Int)) = false := by simp; omega
  go_enter Try.func28, Try.ntmps28
  go_wp2
  all_goals
    go_ret
    refine ⟨ret_int ?_, rfl⟩
    have hr2 := HR.out
    have hq2 := HQ.out
    have hlo := @rnd_lo (m * 100) g
    have hhi := @rnd_hi (m * 100) g
    have hmi := @rnd_mid (m * 100) g
    rw [← hr2, hq2] at hlo hhi hmi
  all_goals
    clear HR HQ hr2 hq2 hr hor hp hand hdiv
    try simp only [beq_iff_eq, beq_eq_false_iff_ne, ne_eq] at *
    rcases Nat.lt_trichotomy (2 * r) g with k | k | k
    · rw [hlo k]; first | omega | skip
    · rw [hmi k.symm]; first | omega | skip
    · rw [hhi k]; first | omega | skip

def pts (x : Nat) : Nat := if x ≤ W100 then rnd (100 * V x) U else 0
theorem mask_e (x : Nat) (hx : x < 18446744073709551616) : bits .and .u64 ((x : Int) / 4503599627370496) 2047 = ((x / 4503599627370496 % 2048 : Nat) : Int) := by
  have h := bits_and_u64_nat (x / 4503599627370496) 2047 (by omega) (by omega)
  rw [show (2047 : Nat) = 2 ^ 11 - 1 from rfl, Nat.and_two_pow_sub_one_eq_mod] at h
  exact h
theorem or_m (x : Nat) (hx : x < 18446744073709551616) : bits .or .u64 (bits .and .u64 (x : Int) 4503599627370495) 4503599627370496 = ((4503599627370496 + x % 4503599627370496 : Nat) : Int) := by
  have h := bits_and_u64_nat x 4503599627370495 (by omega) (by omega)
  rw [show (4503599627370495 : Nat) = 2 ^ 52 - 1 from rfl, Nat.and_two_pow_sub_one_eq_mod] at h
  have h2 := bits_or_u64_nat (x % 2 ^ 52) 4503599627370496 (by omega) (by omega)
  have h3 := Nat.two_pow_add_eq_or_of_lt (i := 52) (b := x % 2 ^ 52) (Nat.mod_lt _ (by decide)) 1
  rw [Nat.or_comm, show (4503599627370496 : Nat) = 2 ^ 52 * 1 from rfl, ← h3] at h2
  exact (congrArg (fun t => bits .or .u64 t 4503599627370496) h).trans h2
theorem and_g (a s : Nat) (hs : s ≤ 60) (ha : a < 18446744073709551616) : bits .and .u64 (a : Int) (((2 ^ s : Nat) : Int) - 1) = ((a % 2 ^ s : Nat) : Int) := by
  have hp : 0 < 2 ^ s := Nat.two_pow_pos _
  have hl : 2 ^ s ≤ 2 ^ 60 := Nat.pow_le_pow_right (by decide) hs
  have h := bits_and_u64_nat a (2 ^ s - 1) ha (by omega)
  rw [Nat.and_two_pow_sub_one_eq_mod] at h
  rw [← h]
  congr 1
  omega
theorem U_split {a b : Nat} (h : a + b = 1074) : U = 2 ^ a * 2 ^ b := by unfold U; rw [← Nat.pow_add, h]
theorem low_U : 200 * V 4571153621781053440 < U := by decide +kernel

theorem hundred_any (x : Nat) (w : World) (hx : x ≤ W100 ∨ x = 9223372036854775808) :
    Calls Try.prog 28 #[.int .u64 (x : Int)] w fun r w' => r = .returned (.int .i64 ((pts x : Nat) : Int)) ∧ w = w' := by
  unfold W100 at hx
  by_cases he : x / 4503599627370496 % 2048 < 1015
  · have e0 : pts x = 0 := by
      unfold pts
      by_cases hw : x ≤ W100
      · rw [if_pos hw]
        unfold W100 at hw
        have h1 := V_lt (x := x) (y := 4571153621781053440) (by omega)
        have h2 := low_U
        exact rnd_zero _ _ (by omega)
      · rw [if_neg hw]
    rw [e0]
    exact hundred_small x _ w (by omega) he (mask_e x (by omega))
  · have hxw : x ≤ 4636737291354636288 := by omega
    have e2 : x / 4503599627370496 % 2048 = x / 4503599627370496 := by omega
    rw [e2] at he
    obtain ⟨e, hee⟩ : ∃ e, e = x / 4503599627370496 := ⟨_, rfl⟩
    rw [← hee] at he
    have hee2 : e ≤ 1029 := by omega
    have em : (4503599627370496 + x % 4503599627370496) * 100 < 18446744073709551616 := by omega
    have hg : 2 ^ (1075 - e) = 2 * 2 ^ (1074 - e) := by rw [← Nat.pow_succ']; congr 1; omega
    have hg1 : 0 < 2 ^ (1074 - e) := Nat.two_pow_pos _
    have hg2 : 2 ^ (1075 - e) ≤ 2 ^ 60 := Nat.pow_le_pow_right (by decide) (by omega)
    have h := hundred_great x e (4503599627370496 + x % 4503599627370496) (2 ^ (1075 - e)) _ w hxw (by omega) hee2 (by rw [mask_e x (by omega), e2, hee]) (or_m x (by omega)) (by omega) (by rw [Int.natCast_pow]; rfl) (by omega) (by omega) (by omega)
      (and_g _ (1075 - e) (by omega) em) (Lib.hid rfl)
    have ep : pts x = rnd ((4503599627370496 + x % 4503599627370496) * 100) (2 ^ (1075 - e)) := by
      unfold pts W100
      rw [if_pos hxw, U_split (a := 1075 - e) (b := e - 1) (by omega)]
      unfold V
      rw [if_neg (by omega), ← hee, ← Nat.mul_assoc, Nat.mul_comm 100, rnd_scale _ _ _ (Nat.two_pow_pos _)]
    rw [ep]
    exact h

theorem f64bits (x : Nat) (w : World) : (callFunc 29 #[.float .f64 x]).run Try.prog w = .ok (.value (.int .u64 (x : Int))) w := by
  rw [run_callFunc_extern Try.func29 (by kernel_rfl) (by kernel_rfl) (by kernel_rfl) (e := Extern.MathFloatBits.float64bits) (by kernel_rfl)]
  rfl
theorem f64from (x : Nat) (w : World) : (callFunc 16 #[.int .u64 (x : Int)]).run Try.prog w = .ok (.value (.float .f64 x)) w := by
  rw [run_callFunc_extern Try.func16 (by kernel_rfl) (by kernel_rfl) (by kernel_rfl) (e := Extern.MathFloatBits.float64frombits) (by kernel_rfl)]
  rfl

set_option maxHeartbeats 1000000 in
theorem points_yes (x : Nat) (w : World) (hx : x ≤ W100 ∨ x = 9223372036854775808) :
    Calls Try.prog 9 #[.float .f64 x] w fun r w' => r = .returned (.tuple #[.int .i64 ((pts x : Nat) : Int), .int .i64 0]) ∧ w = w' := by
  have g1 : ge0 x = true := by
    rcases hx with h | h
    · exact ge0_pos (by unfold W100 at h; unfold infW; omega)
    · rw [h]; exact ge0_minus
  have g2 : le100 x = true := by
    rcases hx with h | h
    · rw [le100_pos (by unfold W100 at h; unfold infW; omega)]; simpa using h
    · rw [h]; exact le100_minus
  have k1 : (FloatKind.f64.format.order x 0 == some .gt || FloatKind.f64.format.order x 0 == some .eq) = true := g1
  have k2 : (FloatKind.f64.format.order x 4636737291354636288 == some .lt || FloatKind.f64.format.order x 4636737291354636288 == some .eq) = true := g2
  have HX := Lib.hid hx
  clear g1 g2 hx
  go_enter Try.func9, Try.ntmps9
  go_wp2_with (simp only [f64bits])
  refine (hundred_any x _ HX.out).mono ?_
  rintro e w1 ⟨rfl, rfl⟩
  go_wp2
  go_ret2
  exact ⟨rfl, rfl⟩

set_option maxHeartbeats 1000000 in
theorem points_no (x : Nat) (w : World) (hx : x < 18446744073709551616) (h1 : ¬ x ≤ W100) (h2 : x ≠ 9223372036854775808) :
    Calls Try.prog 9 #[.float .f64 x] w fun r w' => r = .returned (.tuple #[.int .i64 0, .int .i64 51]) ∧ w = w' := by
  by_cases g1 : ge0 x = true
  · have g2 : le100 x = false := by
      rcases guard_no hx h1 h2 with h | h
      · rw [h] at g1; cases g1
      · exact h
    have k1 : (FloatKind.f64.format.order x 0 == some .gt || FloatKind.f64.format.order x 0 == some .eq) = true := g1
    have k2 : (FloatKind.f64.format.order x 4636737291354636288 == some .lt || FloatKind.f64.format.order x 4636737291354636288 == some .eq) = false := g2
    clear g1 g2 h1 h2
    go_enter Try.func9, Try.ntmps9
    go_wp2
    go_ret2
    exact ⟨rfl, rfl⟩
  · have g1 : ge0 x = false := by simpa using g1
    have k1 : (FloatKind.f64.format.order x 0 == some .gt || FloatKind.f64.format.order x 0 == some .eq) = false := g1
    clear g1 h1 h2
    go_enter Try.func9, Try.ntmps9
    go_wp2
    go_ret2
    exact ⟨rfl, rfl⟩
end Go.Proofs.Ytgokihclfdkgeaa
