/- The contracts of falseworkref01, eleventh part: round, Floor, Even. -/
import Derived.Test.YtaebbfaheaghfaaRndF
import Derived.Test.YtaebbfaheaghfaaRndE
namespace Go.Proofs.Ytaebbfaheaghfaa
open Go.RowKit

theorem nm_eq {m k : Bool} {x y : Int} (h : m = k) (h2 : x = y) : Nm m x = Nm k y := by rw [h, h2]
theorem V_sg (m : Bool) (Q : Int) (h : 0 ≤ Q) : V (sg m Q) = Nm (m && !(Q == 0)) Q := by
  refine nm_eq ?_ ?_
  · cases m
    · exact neg_pos h
    · by_cases h0 : Q = 0
      · subst h0; rfl
      · have h1 : (Q == 0) = false := by simp [h0]
        rw [h1]
        exact neg_neg (show -Q < 0 by omega)
  · cases m
    · exact abs_pos h
    · by_cases h0 : Q = 0
      · subst h0; rfl
      · have := abs_neg (show -Q < 0 by omega)
        show absI (-Q) = Q
        omega
theorem V_sg1 (m : Bool) (Q : Int) (h : 0 ≤ Q) : V (sg m (Q + 1)) = Nm m (Q + 1) := by
  rw [V_sg m (Q + 1) (by omega)]
  have h1 : (Q + 1 == 0) = false := by simp; omega
  rw [h1]
  cases m <;> rfl
theorem far_sg (m : Bool) (Q : Int) (h : 0 ≤ Q) (h1 : Q ≤ 85070591730234615865843651857942052865) : Far (sg m Q) := by
  unfold Far sg
  cases m <;> simp <;> omega

set_option maxHeartbeats 4000000 in
theorem round_no (a b c way : Int) (w : World) (c0 : c ≤ 0) :
    Calls Try.prog 39 #[.int .i64 a, .int .i64 b, .int .i64 c, .int .i64 way] w fun e w' => e = .returned (.tuple #[.int .i64 0, .int .i64 12]) ∧ w = w' := by
  have hcd : decide (c ≤ 0) = true := by simpa using c0
  go_enter Try.func39, Try.ntmps39
  go_wp2
  go_ret2
  exact ⟨rfl, rfl⟩

theorem ret_cut {n k : Int} (h : n = k) : Ending.returned (.tuple #[.int .i64 (cutV n), .int .i64 (cutE n)]) = .returned (.tuple #[.int .i64 (cutV k), .int .i64 (cutE k)]) := by rw [h]
theorem abs126 {a b : Int} (ha : I a) (hb : I b) : 0 ≤ absI (a * b) ∧ absI (a * b) ≤ 85070591730234615865843651857942052864 := by
  have := prod_bd a b ha hb
  have := abs_nn (a * b)
  refine ⟨this, ?_⟩
  unfold absI
  split <;> omega

theorem round_floor (a b c : Int) (w : World) (ha : I a) (hb : I b) (hc : I c) (c0 : 0 < c) :
    Calls Try.prog 39 #[.int .i64 a, .int .i64 b, .int .i64 c, .int .i64 0] w fun e w' => e = .returned (.tuple #[.int .i64 (cutV (a * b / c)), .int .i64 (cutE (a * b / c))]) ∧ Below w.heap.size w w' := by
  have hx := abs126 ha hb
  have hQ0 := Int.ediv_nonneg hx.1 (Int.le_of_lt c0)
  have hQ1 := Int.ediv_le_self (b := c) hx.1
  have hR0 := Int.emod_nonneg (absI (a * b)) (show c ≠ 0 by omega)
  have hR1 := Int.emod_lt_of_pos (absI (a * b)) c0
  have hc9 : c ≤ 9223372036854775807 := hc.2
  have e := floor_sg (a * b) c c0 (absI (a * b)) _ _ (neg? (a * b)) (sg_abs _) rfl rfl
  have EC : Hid (V c = Nm false c) := nm_eq (neg_pos (by omega)) (abs_pos (by omega))
  by_cases hp : a * b < 0
  · have hm := neg_neg hp
    rw [hm] at e
    by_cases hz : absI (a * b) % c = 0
    · rw [if_neg (by omega), Int.add_zero] at e
      refine (round_F1 a b c (absI (a * b)) _ _ _ w ha hb hc c0 (Lib.hid (nm_eq hm rfl)) EC hx (Lib.hid rfl) (Lib.hid rfl) ⟨hQ0, by omega⟩ ⟨hR0, by omega⟩ (Lib.hid (V_sg true _ hQ0)) (far_sg _ _ hQ0 (by omega)) (by simpa using hz)).mono ?_
      rintro e' w' ⟨rfl, h⟩
      exact ⟨ret_cut e.symm, h⟩
    · rw [if_pos ⟨rfl, by omega⟩] at e
      refine (round_F2 a b c (absI (a * b)) _ _ _ w ha hb hc c0 (Lib.hid (nm_eq hm rfl)) EC (Lib.hid rfl) hx (Lib.hid rfl) (Lib.hid rfl) ⟨hQ0, by omega⟩ ⟨hR0, by omega⟩ (Lib.hid (V_sg1 true _ hQ0)) (far_sg _ _ (by omega) (by omega)) (by simpa using hz)).mono ?_
      rintro e' w' ⟨rfl, h⟩
      exact ⟨ret_cut e.symm, h⟩
  · have hm := neg_pos (show 0 ≤ a * b by omega)
    rw [hm, if_neg (by simp), Int.add_zero] at e
    refine (round_F0 a b c (absI (a * b)) _ _ _ w ha hb hc c0 (Lib.hid (nm_eq hm rfl)) EC hx (Lib.hid rfl) (Lib.hid rfl) ⟨hQ0, by omega⟩ (Lib.hid (V_sg false _ hQ0)) (far_sg _ _ hQ0 (by omega))).mono ?_
    rintro e' w' ⟨rfl, h⟩
    exact ⟨ret_cut e.symm, h⟩

theorem dgt_odd (Q : Int) : dgt Q 0 % 2 = Q % 2 := by rw [dgt0]; omega

theorem round_even (a b c : Int) (w : World) (ha : I a) (hb : I b) (hc : I c) (c0 : 0 < c) :
    Calls Try.prog 39 #[.int .i64 a, .int .i64 b, .int .i64 c, .int .i64 1] w fun e w' => e = .returned (.tuple #[.int .i64 (cutV (evenI (a * b) c)), .int .i64 (cutE (evenI (a * b) c))]) ∧ Below w.heap.size w w' := by
  have hx := abs126 ha hb
  have hQ0 := Int.ediv_nonneg hx.1 (Int.le_of_lt c0)
  have hQ1 := Int.ediv_le_self (b := c) hx.1
  have hR0 := Int.emod_nonneg (absI (a * b)) (show c ≠ 0 by omega)
  have hR1 := Int.emod_lt_of_pos (absI (a * b)) c0
  have hc9 : c ≤ 9223372036854775807 := hc.2
  have e := even_sg (a * b) c c0 (absI (a * b)) _ _ (neg? (a * b)) (sg_abs _) rfl rfl
  have EC : Hid (V c = Nm false c) := nm_eq (neg_pos (by omega)) (abs_pos (by omega))
  have ho := dgt_odd (absI (a * b) / c)
  rcases Int.lt_trichotomy (2 * (absI (a * b) % c)) c with h1 | h1 | h1
  · rw [if_neg (by omega), Int.add_zero] at e
    refine (round_E0 a b c (absI (a * b)) _ _ _ (neg? (a * b)) w ha hb hc c0 (Lib.hid rfl) EC hx (Lib.hid rfl) (Lib.hid rfl) ⟨hQ0, by omega⟩ ⟨hR0, by omega⟩ (Lib.hid (V_sg _ _ hQ0)) (far_sg _ _ hQ0 (by omega)) (by unfold cmpI; rw [if_pos h1])).mono ?_
    rintro e' w' ⟨rfl, h⟩
    exact ⟨ret_cut e.symm, h⟩
  · have hcm : cmpI (2 * (absI (a * b) % c)) c = 0 := by unfold cmpI; rw [if_neg (by omega), if_neg (by omega)]
    by_cases h2 : absI (a * b) / c % 2 = 1
    · rw [if_pos (Or.inr ⟨h1, h2⟩)] at e
      refine (round_E3 a b c (absI (a * b)) _ _ _ (neg? (a * b)) w ha hb hc c0 (Lib.hid rfl) EC (Lib.hid rfl) hx (Lib.hid rfl) (Lib.hid rfl) ⟨hQ0, by omega⟩ ⟨hR0, by omega⟩ (Lib.hid (V_sg1 _ _ hQ0)) (far_sg _ _ (by omega) (by omega)) hcm (by rw [ho, h2]; rfl)).mono ?_
      rintro e' w' ⟨rfl, h⟩
      exact ⟨ret_cut e.symm, h⟩
    · rw [if_neg (by omega), Int.add_zero] at e
      refine (round_E2 a b c (absI (a * b)) _ _ _ (neg? (a * b)) w ha hb hc c0 (Lib.hid rfl) EC hx (Lib.hid rfl) (Lib.hid rfl) ⟨hQ0, by omega⟩ ⟨hR0, by omega⟩ (Lib.hid (V_sg _ _ hQ0)) (far_sg _ _ hQ0 (by omega)) hcm (by rw [ho]; simpa using h2)).mono ?_
      rintro e' w' ⟨rfl, h⟩
      exact ⟨ret_cut e.symm, h⟩
  · rw [if_pos (Or.inl h1)] at e
    refine (round_E1 a b c (absI (a * b)) _ _ _ (neg? (a * b)) w ha hb hc c0 (Lib.hid rfl) EC (Lib.hid rfl) hx (Lib.hid rfl) (Lib.hid rfl) ⟨hQ0, by omega⟩ ⟨hR0, by omega⟩ (Lib.hid (V_sg1 _ _ hQ0)) (far_sg _ _ (by omega) (by omega)) (by unfold cmpI; rw [if_neg (by omega), if_pos h1])).mono ?_
    rintro e' w' ⟨rfl, h⟩
    exact ⟨ret_cut e.symm, h⟩

theorem refFloor_any (a b c : Int) (w : World) (ha : I a) (hb : I b) (hc : I c) :
    Calls Try.prog 19 #[.int .i64 a, .int .i64 b, .int .i64 c] w fun e w' => e = .returned (.tuple #[.int .i64 (flV (a * b) c), .int .i64 (flE (a * b) c)]) ∧ Below w.heap.size w w' := by
  by_cases h0 : c ≤ 0
  · have e1 : flV (a * b) c = 0 := by unfold flV; rw [if_pos h0]
    have e2 : flE (a * b) c = 12 := by unfold flE; rw [if_pos h0]
    rw [e1, e2]
    clear e1 e2
    go_enter Try.func19, Try.ntmps19
    go_wp2_with fail
    refine (round_no a b c 0 _ h0).mono ?_
    rintro e w' ⟨rfl, rfl⟩
    go_wp2
    go_ret2
    exact ⟨rfl, Below.refl _ _⟩
  · have e1 : flV (a * b) c = cutV (a * b / c) := by unfold flV; rw [if_neg h0]
    have e2 : flE (a * b) c = cutE (a * b / c) := by unfold flE; rw [if_neg h0]
    rw [e1, e2]
    clear e1 e2
    have H := fun w => Lib.hid (round_floor a b c w ha hb hc (by omega))
    generalize a * b / c = n at *
    go_enter Try.func19, Try.ntmps19
    go_wp2_with fail
    refine (H _).out.mono ?_
    rintro e w1 ⟨rfl, h1⟩
    go_wp2
    go_ret2
    exact ⟨rfl, h1⟩

theorem refEven_any (a b c : Int) (w : World) (ha : I a) (hb : I b) (hc : I c) :
    Calls Try.prog 21 #[.int .i64 a, .int .i64 b, .int .i64 c] w fun e w' => e = .returned (.tuple #[.int .i64 (evV (a * b) c), .int .i64 (evE (a * b) c)]) ∧ Below w.heap.size w w' := by
  by_cases h0 : c ≤ 0
  · have e1 : evV (a * b) c = 0 := by unfold evV; rw [if_pos h0]
    have e2 : evE (a * b) c = 12 := by unfold evE; rw [if_pos h0]
    rw [e1, e2]
    clear e1 e2
    go_enter Try.func21, Try.ntmps21
    go_wp2_with fail
    refine (round_no a b c 1 _ h0).mono ?_
    rintro e w' ⟨rfl, rfl⟩
    go_wp2
    go_ret2
    exact ⟨rfl, Below.refl _ _⟩
  · have e1 : evV (a * b) c = cutV (evenI (a * b) c) := by unfold evV; rw [if_neg h0]
    have e2 : evE (a * b) c = cutE (evenI (a * b) c) := by unfold evE; rw [if_neg h0]
    rw [e1, e2]
    clear e1 e2
    have H := fun w => Lib.hid (round_even a b c w ha hb hc (by omega))
    generalize evenI (a * b) c = n at *
    go_enter Try.func21, Try.ntmps21
    go_wp2_with fail
    refine (H _).out.mono ?_
    rintro e w1 ⟨rfl, h1⟩
    go_wp2
    go_ret2
    exact ⟨rfl, h1⟩
end Go.Proofs.Ytaebbfaheaghfaa
