/- Plain arithmetic for a division by doubled divisors. No program in it. The contracts of falseworkref01, tenth part: what Divide wants. -/
import Derived.Test.YtaebbfaheaghfaaWideMath
import Derived.Test.YtaebbfaheaghfaaDigMem
import Derived.Test.YtaebbfaheaghfaaTimesA
import Derived.Deep.RegionWith

namespace Go.Proofs.Ytaebbfaheaghfaa

/-- a divisor doubled r times, and halved -/
def dC (c : Int) (r : Nat) : Int := c * 2 ^ r / 2
theorem pow_succ2 (r : Nat) : (2 : Int) ^ (r + 1) = 2 * 2 ^ r := by rw [Int.pow_succ, Int.mul_comm]
theorem pow_pos2 (r : Nat) : (0 : Int) < 2 ^ r := Int.pow_pos (by decide)
theorem dC_succ (c : Int) (r : Nat) : dC c (r + 1) = c * 2 ^ r := by
  unfold dC
  rw [pow_succ2, ← Int.mul_assoc, Int.mul_comm c 2, Int.mul_assoc]
  omega
theorem dC_half (c : Int) (r : Nat) : dC c (r + 1) / 2 = dC c r := by rw [dC_succ]; rfl
theorem dC_twice (c : Int) (r : Nat) : 2 * dC c (r + 1) = dC c (r + 2) := by rw [dC_succ, dC_succ, pow_succ2, ← Int.mul_assoc, ← Int.mul_assoc, Int.mul_comm c 2]
theorem dC_one (c : Int) : dC c 1 = c := by rw [dC_succ]; simp
theorem dC_mul (c : Int) (r : Nat) : dC c (r + 1) = dC 1 (r + 1) * c := by rw [dC_succ, dC_succ, Int.one_mul, Int.mul_comm]
theorem dC_pos (c : Int) (r : Nat) (h : 0 < c) : 0 < dC c (r + 1) := by rw [dC_succ]; exact Int.mul_pos h (pow_pos2 r)
theorem dC_le (c : Int) (r : Nat) (h : 0 < c) : dC 1 (r + 1) ≤ dC c (r + 1) := by
  rw [dC_succ, dC_succ]
  exact Int.mul_le_mul_of_nonneg_right (by omega) (Int.le_of_lt (pow_pos2 r))
theorem dC_nn (c : Int) (r : Nat) (h : 0 < c) : 0 ≤ dC c r := by
  have := Int.mul_pos h (pow_pos2 r)
  unfold dC
  omega
theorem dC_big (r : Nat) (h : dC 1 (r + 1) < 1361129467683753853853498429727072845824) : r < 130 := by
  rw [dC_succ, Int.one_mul] at h
  rcases Nat.lt_or_ge r 130 with hl | hl
  · exact hl
  · have h2 : (2 : Nat) ^ 130 ≤ 2 ^ r := Nat.pow_le_pow_right (by decide) hl
    have h3 : ((2 ^ r : Nat) : Int) = 2 ^ r := by simp
    have h4 : (2 : Nat) ^ 130 = 1361129467683753853853498429727072845824 := by decide
    omega
/-- one round: taken away -/
theorem dv_take (a q c a0 : Int) (r : Nat) (h : q * c + a = a0) : (q + dC 1 (r + 1)) * c + (a - dC c (r + 1)) = a0 := by
  rw [Int.add_mul, ← dC_mul]
  omega
theorem dv_end (a q c a0 : Int) (h : q * c + a = a0) (h0 : 0 ≤ a) (h1 : a < c) : q = a0 / c ∧ a = a0 % c := by
  have hc : c ≠ 0 := by omega
  have h2 : a0 = a + c * q := by rw [Int.mul_comm]; omega
  constructor
  · rw [h2, Int.add_mul_ediv_left _ _ hc, Int.ediv_eq_zero_of_lt h0 h1]; omega
  · rw [h2, Int.add_mul_emod_self_left, Int.emod_eq_of_lt h0 h1]
theorem dv_q (a q c a0 : Int) (h : q * c + a = a0) (h0 : 0 ≤ a) (hq : 0 ≤ q) (hc : 0 < c) : q ≤ a0 := by
  have : q * 1 ≤ q * c := Int.mul_le_mul_of_nonneg_left (by omega) hq
  omega
end Go.Proofs.Ytaebbfaheaghfaa

namespace Go.Proofs.Ytaebbfaheaghfaa
open Go.RowKit

theorem Room10.alloc {w : World} {b : Nat} (h : Room10 w b) (o : Obj) : Room10 (w.alloc o) b := h.below ((Below.refl _ _).alloc (Nat.le_refl _) o)
theorem Room10.drewN {w : World} {b : Nat} (h : Room10 w b) (n : Nat) : Room10 (w.drewN n) b := h.below (below_drewN (Below.refl _ _) n)
theorem Room10.drew {w : World} {b : Nat} (h : Room10 w b) : Room10 w.drew b := h.below (Below.refl _ _).drew
theorem cmp_le {x y : Int} (h : x ≤ y) : decide (cmpI x y ≤ 0) = true := by unfold cmpI; split <;> (try split) <;> simp <;> omega
theorem cmp_one {x y : Int} (h : y < x) : cmpI x y = 1 := by unfold cmpI; rw [if_neg (by omega), if_pos h]
theorem cmp_gt {x y : Int} (h : y < x) : decide (cmpI x y ≤ 0) = false := by unfold cmpI; split <;> (try split) <;> simp <;> omega
/-- at whatever world of which R holds -/
theorem wp_gen {P : Program} {c : Code} {Q : Exit → Act → World → Prop} {a : Act} {w : World} (R : World → Prop) (h : R w) (k : ∀ w', R w' → Code.wp P c Q a w') : Code.wp P c Q a w := k w h
/-- the outermost loops of a text -/
def loopsOf : Code → List Code
  | .loop c => [c]
  | .seq a b => loopsOf a ++ loopsOf b
  | .block _ c => loopsOf c
  | .scope c => loopsOf c
  | .cond _ a b => loopsOf a ++ loopsOf b
  | _ => []
end Go.Proofs.Ytaebbfaheaghfaa
