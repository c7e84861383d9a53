/- The walk of falseworklaw01.WideSigns. -/
import Derived.Test.YtkdjoiahjenadaaAlive1
namespace Go.Proofs.Ytkdjoiahjenadaa
open Go.RowKit

theorem cmp_self (p : Int) : cmpI p p = 0 := by unfold cmpI; rw [if_neg (by omega), if_neg (by omega)]

set_option maxHeartbeats 1000000 in
theorem wideSigns_walk (a b c : Int) (wa : (Lit.int .i64 a).wf = true) (wb : (Lit.int .i64 b).wf = true) (wc : (Lit.int .i64 c).wf = true) (w : World) :
    Calls Try.prog 10 #[.int .i64 a, .int .i64 b, .int .i64 c] w fun e w' => e = .returned (.bool true) ∧ Below w.heap.size w w' := by
  have ha := I_of_wf wa
  have hb := I_of_wf wb
  have hc := I_of_wf wc
  clear wa wb wc
  by_cases hA : a = -9223372036854775808
  · have hd : (a == -9223372036854775808) = true := by simpa using hA
    clear hA
    go_enter Try.func10, Try.ntmps10
    go_wp2_with fail
    refine (alive_any _).mono ?_
    rintro e w1 ⟨rfl, hw1⟩
    go_wp2
    go_ret
    exact ⟨rfl, hw1⟩
  · have hd : (a == -9223372036854775808) = false := by simpa using hA
    by_cases hB : b = -9223372036854775808
    · have hd2 : (b == -9223372036854775808) = true := by simpa using hB
      clear hA hB
      go_enter Try.func10, Try.ntmps10
      go_wp2_with fail
      refine (alive_any _).mono ?_
      rintro e w1 ⟨rfl, hw1⟩
      go_wp2
      go_ret
      exact ⟨rfl, hw1⟩
    · have hd2 : (b == -9223372036854775808) = false := by simpa using hB
      obtain ⟨a0, a1⟩ := ha
      obtain ⟨b0, b1⟩ := hb
      have ha : I a := ⟨a0, a1⟩
      have hb : I b := ⟨b0, b1⟩
      have na : I (-a) := ⟨by omega, by omega⟩
      have nb : I (-b) := ⟨by omega, by omega⟩
      have n0 : -9223372036854775807 ≤ a := by omega
      have n1 : -9223372036854775807 ≤ b := by omega
      clear hA hB
      have H1 := fun w => Lib.hid (floor_any a b c w ha hb hc)
      have H2 := fun w => Lib.hid (floor_any (-a) (-b) c w na nb hc)
      have H3 := fun w => Lib.hid (even_any a b c w ha hb hc)
      have H4 := fun w => Lib.hid (even_any (-a) b c w na hb hc)
      have H5 := fun w => Lib.hid (cross_any a b (-a) (-b) w ha hb na nb)
      rw [Int.neg_mul_neg] at H2 H5
      rw [cmp_self] at H5
      rw [Int.neg_mul] at H4
      by_cases h0 : c ≤ 0
      · have e3 : evE (a * b) c = 12 := by unfold evE; rw [if_pos h0]
        simp only [e3] at H3
        clear e3
        go_enter Try.func10, Try.ntmps10
        go_wp2_with fail
        refine (alive_any _).mono ?_
        rintro e w1 ⟨rfl, hw1⟩
        go_wp2_with fail
        refine (H1 _).out.mono ?_
        rintro e w2 ⟨rfl, hw2⟩
        go_wp2_with fail
        refine (H2 _).out.mono ?_
        rintro e w3 ⟨rfl, hw3⟩
        go_wp2_with fail
        refine (H3 _).out.mono ?_
        rintro e w4 ⟨rfl, hw4⟩
        go_wp2_with fail
        refine (H4 _).out.mono ?_
        rintro e w5 ⟨rfl, hw5⟩
        go_wp2_with fail
        refine (H5 _).out.mono ?_
        rintro e w6 ⟨rfl, hw6⟩
        go_wp2
        go_ret
        exact ⟨by simp, bl_trans (bl_trans (bl_trans (bl_trans (bl_trans hw1 hw2) hw3) hw4) hw5) hw6⟩
      · by_cases hx : I (evenI (a * b) c)
        · have e3 : evE (a * b) c = 0 := by unfold evE; rw [if_neg h0, cutE_in hx]
          have e5 : evV (a * b) c = evenI (a * b) c := by unfold evV; rw [if_neg h0, cutV_in hx]
          by_cases hy : I (evenI (-(a * b)) c)
          · have e4 : evE (-(a * b)) c = 0 := by unfold evE; rw [if_neg h0, cutE_in hy]
            have e6 : evV (-(a * b)) c = -(evenI (a * b) c) := by unfold evV; rw [if_neg h0, cutV_in hy, even_neg _ _ (by omega)]
            rw [even_neg _ _ (by omega)] at hy
            simp only [e3, e5] at H3
            simp only [e4, e6] at H4
            generalize evenI (a * b) c = y at *
            obtain ⟨y0, y1⟩ := hx
            obtain ⟨y2, y3⟩ := hy
            clear e3 e4 e5 e6
            go_enter Try.func10, Try.ntmps10
            go_wp2_with fail
            refine (alive_any _).mono ?_
            rintro e w1 ⟨rfl, hw1⟩
            go_wp2_with fail
            refine (H1 _).out.mono ?_
            rintro e w2 ⟨rfl, hw2⟩
            go_wp2_with fail
            refine (H2 _).out.mono ?_
            rintro e w3 ⟨rfl, hw3⟩
            go_wp2_with fail
            refine (H3 _).out.mono ?_
            rintro e w4 ⟨rfl, hw4⟩
            go_wp2_with fail
            refine (H4 _).out.mono ?_
            rintro e w5 ⟨rfl, hw5⟩
            go_wp2_with fail
            refine (H5 _).out.mono ?_
            rintro e w6 ⟨rfl, hw6⟩
            go_wp2
            go_ret
            exact ⟨by simp, bl_trans (bl_trans (bl_trans (bl_trans (bl_trans hw1 hw2) hw3) hw4) hw5) hw6⟩
          · have e4 : evE (-(a * b)) c = 11 := by unfold evE; rw [if_neg h0, cutE_out hy]
            simp only [e3, e5] at H3
            simp only [e4] at H4
            clear e3 e4 e5 hx hy
            go_enter Try.func10, Try.ntmps10
            go_wp2_with fail
            refine (alive_any _).mono ?_
            rintro e w1 ⟨rfl, hw1⟩
            go_wp2_with fail
            refine (H1 _).out.mono ?_
            rintro e w2 ⟨rfl, hw2⟩
            go_wp2_with fail
            refine (H2 _).out.mono ?_
            rintro e w3 ⟨rfl, hw3⟩
            go_wp2_with fail
            refine (H3 _).out.mono ?_
            rintro e w4 ⟨rfl, hw4⟩
            go_wp2_with fail
            refine (H4 _).out.mono ?_
            rintro e w5 ⟨rfl, hw5⟩
            go_wp2_with fail
            refine (H5 _).out.mono ?_
            rintro e w6 ⟨rfl, hw6⟩
            go_wp2
            go_ret
            exact ⟨by simp, bl_trans (bl_trans (bl_trans (bl_trans (bl_trans hw1 hw2) hw3) hw4) hw5) hw6⟩
        · have e3 : evE (a * b) c = 11 := by unfold evE; rw [if_neg h0, cutE_out hx]
          simp only [e3] at H3
          clear e3 hx
          go_enter Try.func10, Try.ntmps10
          go_wp2_with fail
          refine (alive_any _).mono ?_
          rintro e w1 ⟨rfl, hw1⟩
          go_wp2_with fail
          refine (H1 _).out.mono ?_
          rintro e w2 ⟨rfl, hw2⟩
          go_wp2_with fail
          refine (H2 _).out.mono ?_
          rintro e w3 ⟨rfl, hw3⟩
          go_wp2_with fail
          refine (H3 _).out.mono ?_
          rintro e w4 ⟨rfl, hw4⟩
          go_wp2_with fail
          refine (H4 _).out.mono ?_
          rintro e w5 ⟨rfl, hw5⟩
          go_wp2_with fail
          refine (H5 _).out.mono ?_
          rintro e w6 ⟨rfl, hw6⟩
          go_wp2
          go_ret
          exact ⟨by simp, bl_trans (bl_trans (bl_trans (bl_trans (bl_trans hw1 hw2) hw3) hw4) hw5) hw6⟩

end Go.Proofs.Ytkdjoiahjenadaa
