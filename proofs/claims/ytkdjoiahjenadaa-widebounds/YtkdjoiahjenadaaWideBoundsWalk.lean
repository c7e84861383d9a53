/- The walk of falseworklaw01.WideBounds. -/
import Derived.Test.YtkdjoiahjenadaaAlive1
namespace Go.Proofs.Ytkdjoiahjenadaa
open Go.RowKit

theorem floor_le (p c : Int) (hc : 0 < c) : p / c * c ≤ p := Int.ediv_mul_le p (by omega)
theorem floor_gt (p c : Int) (hc : 0 < c) : p < (p / c + 1) * c := Int.lt_ediv_add_one_mul_self p hc
theorem even_or (p c : Int) : evenI p c = p / c ∨ evenI p c = p / c + 1 := by
  unfold evenI
  split
  · exact Or.inl rfl
  · split
    · exact Or.inr rfl
    · split
      · exact Or.inl rfl
      · exact Or.inr rfl

set_option maxHeartbeats 1000000 in
theorem wideBounds_walk (a b c : Int) (wa : (Lit.int .i64 a).wf = true) (wb : (Lit.int .i64 b).wf = true) (wc : (Lit.int .i64 c).wf = true) (w : World) :
    Calls Try.prog 8 #[.int .i64 a, .int .i64 b, .int .i64 c] w fun e w' => e = .returned (.bool true) ∧ Below w.heap.size w w' := by
  have ha := I_of_wf wa
  have hb := I_of_wf wb
  have hc := I_of_wf wc
  clear wa wb wc
  by_cases h0 : c ≤ 0
  · go_enter Try.func8, Try.ntmps8
    go_wp2_with fail
    refine (alive_any _).mono ?_
    rintro e w1 ⟨rfl, hw1⟩
    go_wp2
    go_ret
    exact ⟨rfl, hw1⟩
  · obtain ⟨c0, c1⟩ := hc
    have hc : I c := ⟨c0, c1⟩
    have hd0 : decide (c ≤ 0) = false := by simpa using h0
    have H1 := fun w => Lib.hid (floor_any a b c w ha hb hc)
    have H2 := fun w => Lib.hid (even_any a b c w ha hb hc)
    by_cases hx : I (a * b / c)
    · by_cases hy : I (evenI (a * b) c)
      · obtain ⟨x, ex⟩ : ∃ x, x = a * b / c := ⟨_, rfl⟩
        obtain ⟨y, ey⟩ : ∃ y, y = evenI (a * b) c := ⟨_, rfl⟩
        have e1 : flV (a * b) c = x := by unfold flV; rw [if_neg h0, cutV_in hx, ex]
        have e2 : flE (a * b) c = 0 := by unfold flE; rw [if_neg h0, cutE_in hx]
        have e3 : evV (a * b) c = y := by unfold evV; rw [if_neg h0, cutV_in hy, ey]
        have e4 : evE (a * b) c = 0 := by unfold evE; rw [if_neg h0, cutE_in hy]
        simp only [e1, e2] at H1
        simp only [e3, e4] at H2
        have hle := floor_le (a * b) c (by omega)
        have hgt := floor_gt (a * b) c (by omega)
        have hor := even_or (a * b) c
        rw [← ex] at hx hle hgt hor
        rw [← ey] at hor
        have k1 : cmpI (x * c) (a * b) ≤ 0 := by unfold cmpI; split <;> (try split) <;> omega
        have k2 : cmpI ((x + 1) * c) (a * b) = 1 := by unfold cmpI; rw [if_neg (by omega), if_pos hgt]
        have hd1 : decide (0 < cmpI (x * c) (a * b)) = false := by simp only [decide_eq_false_iff_not]; omega
        have C1 := fun w => Lib.hid (cross_any x c a b w hx hc ha hb)
        have hxx := hx
        obtain ⟨x0, x1⟩ := hx
        rw [← ey] at hy
        clear e1 e2 e3 e4 ex ey hle hgt k1
        by_cases hm : x < 9223372036854775807
        · have hdm : decide (x < 9223372036854775807) = true := by simpa using hm
          have C2 := fun w => Lib.hid (cross_any (x + 1) c a b w ⟨by omega, by omega⟩ hc ha hb)
          rw [k2] at C2
          clear k2 hy
          rcases hor with hor | hor
          all_goals
            subst hor
            go_enter Try.func8, Try.ntmps8
            go_wp2_with fail
            refine (alive_any _).mono ?_
            rintro e w1 ⟨rfl, hw1⟩
            go_wp2_with fail
            refine (H1 _).out.mono ?_
            rintro e w2 ⟨rfl, hw2⟩
            go_wp2_with fail
            refine (H2 _).out.mono ?_
            rintro e w3 ⟨rfl, hw3⟩
            go_wp2_with fail
            refine (C1 _).out.mono ?_
            rintro e w4 ⟨rfl, hw4⟩
            go_wp2_with fail
            refine (C2 _).out.mono ?_
            rintro e w5 ⟨rfl, hw5⟩
            go_wp2
            go_ret
            exact ⟨by simp, bl_trans (bl_trans (bl_trans (bl_trans hw1 hw2) hw3) hw4) hw5⟩
        · have hdm : decide (x < 9223372036854775807) = false := by simpa using hm
          have hyx : y = x := by
            rcases hor with hor | hor
            · exact hor
            · unfold I at hy; omega
          subst hyx
          clear hor hy k2
          go_enter Try.func8, Try.ntmps8
          go_wp2_with fail
          refine (alive_any _).mono ?_
          rintro e w1 ⟨rfl, hw1⟩
          go_wp2_with fail
          refine (H1 _).out.mono ?_
          rintro e w2 ⟨rfl, hw2⟩
          go_wp2_with fail
          refine (H2 _).out.mono ?_
          rintro e w3 ⟨rfl, hw3⟩
          go_wp2_with fail
          refine (C1 _).out.mono ?_
          rintro e w4 ⟨rfl, hw4⟩
          go_wp2
          go_ret
          exact ⟨by simp, bl_trans (bl_trans (bl_trans hw1 hw2) hw3) hw4⟩
      · have e2 : flE (a * b) c = 0 := by unfold flE; rw [if_neg h0, cutE_in hx]
        have e4 : evE (a * b) c = 11 := by unfold evE; rw [if_neg h0, cutE_out hy]
        simp only [e2] at H1
        simp only [e4] at H2
        clear e2 e4 hx hy
        go_enter Try.func8, Try.ntmps8
        go_wp2_with fail
        refine (alive_any _).mono ?_
        rintro e w1 ⟨rfl, hw1⟩
        go_wp2_with fail
        refine (H1 _).out.mono ?_
        rintro e w2 ⟨rfl, hw2⟩
        go_wp2_with fail
        refine (H2 _).out.mono ?_
        rintro e w3 ⟨rfl, hw3⟩
        go_wp2
        go_ret
        exact ⟨by simp, bl_trans (bl_trans hw1 hw2) hw3⟩
    · have e2 : flE (a * b) c = 11 := by unfold flE; rw [if_neg h0, cutE_out hx]
      simp only [e2] at H1
      clear e2 hx
      go_enter Try.func8, Try.ntmps8
      go_wp2_with fail
      refine (alive_any _).mono ?_
      rintro e w1 ⟨rfl, hw1⟩
      go_wp2_with fail
      refine (H1 _).out.mono ?_
      rintro e w2 ⟨rfl, hw2⟩
      go_wp2_with fail
      refine (H2 _).out.mono ?_
      rintro e w3 ⟨rfl, hw3⟩
      go_wp2
      go_ret
      exact ⟨by simp, bl_trans (bl_trans hw1 hw2) hw3⟩

end Go.Proofs.Ytkdjoiahjenadaa
