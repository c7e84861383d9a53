/- The contracts of falseworkref01, eighth part: Times on numbers with their signs, Cross, Sum. -/
import Derived.Test.YtaebbfaheaghfaaRefF
import Derived.Test.YtaebbfaheaghfaaRefG
import Derived.Test.YtaebbfaheaghfaaRowzOf
namespace Go.Proofs.Ytaebbfaheaghfaa
open Go.RowKit

theorem abs_mul (a b : Int) : absI (a * b) = absI a * absI b := by
  by_cases ha : a < 0 <;> by_cases hb : b < 0
  · have h := Int.mul_nonneg (show 0 ≤ -a by omega) (show 0 ≤ -b by omega)
    rw [Int.neg_mul_neg] at h
    rw [abs_neg ha, abs_neg hb, Int.neg_mul_neg, abs_pos h]
  · have h := Int.mul_nonneg (show 0 ≤ -a by omega) (show 0 ≤ b by omega)
    rw [Int.neg_mul] at h
    rw [abs_neg ha, abs_pos (show 0 ≤ b by omega), Int.neg_mul]
    unfold absI
    split <;> omega
  · have h := Int.mul_nonneg (show 0 ≤ a by omega) (show 0 ≤ -b by omega)
    rw [Int.mul_neg] at h
    rw [abs_pos (show 0 ≤ a by omega), abs_neg hb, Int.mul_neg]
    unfold absI
    split <;> omega
  · have h := Int.mul_nonneg (show 0 ≤ a by omega) (show 0 ≤ b by omega)
    rw [abs_pos h, abs_pos (show 0 ≤ a by omega), abs_pos (show 0 ≤ b by omega)]

theorem neg_mul2 (a b : Int) : ((neg? a != neg? b) && !(absI a * absI b == 0)) = neg? (a * b) := by
  rw [← abs_mul]
  have hz : (absI (a * b) == 0) = (a * b == 0) := by
    rw [Bool.eq_iff_iff]
    simp only [beq_iff_eq]
    unfold absI
    split <;> omega
  rw [hz]
  by_cases ha : a < 0 <;> by_cases hb : b < 0
  · have h := Int.mul_nonneg (show 0 ≤ -a by omega) (show 0 ≤ -b by omega)
    rw [Int.neg_mul_neg] at h
    rw [neg_neg ha, neg_neg hb, neg_pos h]
    rfl
  · have h := Int.mul_nonneg (show 0 ≤ -a by omega) (show 0 ≤ b by omega)
    rw [Int.neg_mul] at h
    rw [neg_neg ha, neg_pos (show 0 ≤ b by omega)]
    generalize a * b = p at *
    unfold neg?
    rw [Bool.eq_iff_iff]
    simp
    omega
  · have h := Int.mul_nonneg (show 0 ≤ a by omega) (show 0 ≤ -b by omega)
    rw [Int.mul_neg] at h
    rw [neg_pos (show 0 ≤ a by omega), neg_neg hb]
    generalize a * b = p at *
    unfold neg?
    rw [Bool.eq_iff_iff]
    simp
    omega
  · have h := Int.mul_nonneg (show 0 ≤ a by omega) (show 0 ≤ b by omega)
    rw [neg_pos (show 0 ≤ a by omega), neg_pos (show 0 ≤ b by omega), neg_pos h]
    rfl

theorem abs_I {a : Int} (h : I a) : 0 ≤ absI a ∧ absI a ≤ 9223372036854775808 := by unfold I at h; unfold absI; split <;> omega

theorem times_any (a b : Int) (w : World) (ha : I a) (hb : I b) :
    Calls Try.prog 17 #[.int .i64 a, .int .i64 b] w fun e w' => e = .returned (V (a * b)) ∧ Below w.heap.size w w' := by
  refine (times_core (neg? a) (neg? b) a b (absI a) (absI b) w (Lib.hid rfl) (Lib.hid rfl) ha hb (abs_I ha) (abs_I hb)).mono ?_
  rintro e w1 ⟨rfl, hw⟩
  refine ⟨num_eq (neg_mul2 a b) (abs_mul a b).symm, hw⟩

theorem far_prod {a b : Int} (ha : I a) (hb : I b) : Far (a * b) := by
  have := prod_bd a b ha hb
  unfold Far
  omega

set_option maxHeartbeats 1000000 in
theorem refCross_any (a b c d : Int) (w : World) (ha : I a) (hb : I b) (hc : I c) (hd : I d) :
    Calls Try.prog 29 #[.int .i64 a, .int .i64 b, .int .i64 c, .int .i64 d] w fun e w' => e = .returned (.int .i64 (cmpI (a * b) (c * d))) ∧ Below w.heap.size w w' := by
  have H1 := fun w => Lib.hid (times_any a b w ha hb)
  have H2 := fun w => Lib.hid (times_any c d w hc hd)
  have H3 := fun w => Lib.hid (compare_any (a * b) (c * d) w (far_prod ha hb) (far_prod hc hd))
  generalize a * b = p at *
  generalize c * d = q at *
  go_enter Try.func29, Try.ntmps29
  go_wp2_with fail
  refine (H1 _).out.mono ?_
  rintro e w1 ⟨rfl, h1⟩
  go_wp2_with fail
  refine (H2 _).out.mono ?_
  rintro e w2 ⟨rfl, h2⟩
  go_wp2_with fail
  refine (H3 _).out.mono ?_
  rintro e w3 ⟨rfl, h3⟩
  go_wp2
  go_ret
  exact ⟨rfl, bl_trans (bl_trans h1 h2) h3.below⟩

end Go.Proofs.Ytaebbfaheaghfaa
