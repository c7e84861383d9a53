/- The contracts of package wide, second part: Floor, Even, Cross, Sum. -/
import Derived.Test.YtaebbfaheaghfaaWide
namespace Go.Proofs.Ytaebbfaheaghfaa
open Go.RowKit

theorem sg_abs (p : Int) : p = sg (neg? p) (absI p) := by
  unfold sg neg? absI
  by_cases h : p < 0 <;> simp [h]

/-- the size's quotient out of 64 bits: so is the result, however it is rounded -/
theorem out_sg (neg : Bool) (q d : Int) (h : 9223372036854775808 < q) (hd : 0 ≤ d) : ¬ I (sg neg (q + d)) := by
  unfold I sg
  cases neg
  · simp; omega
  · simp; omega

set_option maxHeartbeats 800000 in
theorem floor_any (a b c : Int) (w : World) (ha : I a) (hb : I b) (hc : I c) :
    Calls Try.prog 18 #[.int .i64 a, .int .i64 b, .int .i64 c] w fun e w' => e = .returned (.tuple #[.int .i64 (flV (a * b) c), .int .i64 (flE (a * b) c)]) ∧ Below w.heap.size w w' := by
  have hN := prod_wd a b ha hb
  by_cases h0 : c ≤ 0
  · have hV : Hid (flV (a * b) c = 0) := by unfold flV; rw [if_pos h0]; rfl
    have hE : Hid (flE (a * b) c = 12) := by unfold flE; rw [if_pos h0]; rfl
    go_enter Try.func18, Try.ntmps18
    go_wp2_with fail
    refine (product_any a b _ ha hb).mono ?_
    rintro e w1 ⟨rfl, hw1⟩
    go_wp2_with fail
    refine (divide_zero (a * b) c _ h0).mono ?_
    rintro e w2 ⟨rfl, hw2⟩
    go_wp2
    go_ret2
    exact ⟨ret_two hV.out.symm hE.out.symm, (bl_trans hw1 hw2).alloc (bl_trans hw1 hw2).size _⟩
  · have hc2 : c ≤ 9223372036854775807 := hc.2
    by_cases h1 : 9223372036854775808 < absI (a * b) / c
    · have hout : ¬ I (a * b / c) := by
        rw [floor_sg (a * b) c (by omega) (absI (a * b)) _ _ (neg? (a * b)) (sg_abs _) rfl rfl]
        exact out_sg _ _ _ h1 (by split <;> omega)
      have hV : Hid (flV (a * b) c = 0) := by unfold flV; rw [if_neg h0, cutV_out hout]; rfl
      have hE : Hid (flE (a * b) c = 11) := by unfold flE; rw [if_neg h0, cutE_out hout]; rfl
      clear hout
      go_enter Try.func18, Try.ntmps18
      go_wp2_with fail
      refine (product_any a b _ ha hb).mono ?_
      rintro e w1 ⟨rfl, hw1⟩
      go_wp2_with fail
      refine (divide_over (a * b) c _ hN (by omega) hc2 h1).mono ?_
      rintro e w2 ⟨rfl, hw2⟩
      go_wp2
      go_ret2
      exact ⟨ret_two hV.out.symm hE.out.symm, (bl_trans hw1 hw2).alloc (bl_trans hw1 hw2).size _⟩
    · have hfl := floor_sg (a * b) c (by omega) (absI (a * b)) _ _ (neg? (a * b)) (sg_abs _) rfl rfl
      have hab := abs_bd _ hN
      have q0 : 0 ≤ absI (a * b) / c := Int.ediv_nonneg hab.1 (by omega)
      have q1 : absI (a * b) / c ≤ 9223372036854775808 := by omega
      clear h1
      obtain ⟨q, hq⟩ : ∃ q, q = absI (a * b) / c := ⟨_, rfl⟩
      obtain ⟨r, hr⟩ : ∃ r, r = absI (a * b) % c := ⟨_, rfl⟩
      obtain ⟨ng, hn⟩ : ∃ ng, ng = neg? (a * b) := ⟨_, rfl⟩
      have hd := divide_ok (a * b) c
      rw [← hq, ← hr, ← hn] at hfl hd
      rw [← hq] at q0 q1
      have hV : Hid (flV (a * b) c = cutV (sg ng (q + if ng = true ∧ 0 < r then 1 else 0))) := by unfold flV; rw [if_neg h0, hfl]; rfl
      have hE : Hid (flE (a * b) c = cutE (sg ng (q + if ng = true ∧ 0 < r then 1 else 0))) := by unfold flE; rw [if_neg h0, hfl]; rfl
      have HD := fun w => Lib.hid (hd w hN (by omega) hc2 q1)
      clear hd hfl hq hr hn
      go_enter Try.func18, Try.ntmps18
      go_wp2_with fail
      refine (product_any a b _ ha hb).mono ?_
      rintro e w1 ⟨rfl, hw1⟩
      go_wp2_with fail
      refine (HD _).out.mono ?_
      rintro e w2 ⟨rfl, hw2⟩
      clear HD
      have hz := (bl_trans hw1 hw2).size
      cases ng
      · go_wp2_with fail
        refine (signed_any false q r _ q0 (by omega)).mono ?_
        rintro e w3 ⟨rfl, hw3⟩
        go_wp2
        go_ret2
        exact ⟨ret_two (by rw [hV.out]; simp) (by rw [hE.out]; simp), bl_trans ((bl_trans hw1 hw2).alloc hz _) hw3⟩
      · by_cases hr : 0 < r
        · have hd : decide (0 < r) = true := by simpa using hr
          go_wp2_with fail
          refine (signed_any true (q + 1) r _ (by omega) (by omega)).mono ?_
          rintro e w3 ⟨rfl, hw3⟩
          go_wp2
          go_ret2
          exact ⟨ret_two (by rw [hV.out]; simp [hr]) (by rw [hE.out]; simp [hr]), bl_trans ((bl_trans hw1 hw2).alloc hz _) hw3⟩
        · have hd : decide (0 < r) = false := by simpa using hr
          go_wp2_with fail
          refine (signed_any true q r _ q0 (by omega)).mono ?_
          rintro e w3 ⟨rfl, hw3⟩
          go_wp2
          go_ret2
          exact ⟨ret_two (by rw [hV.out]; simp [show ¬ 0 < r by omega]) (by rw [hE.out]; simp [show ¬ 0 < r by omega]), bl_trans ((bl_trans hw1 hw2).alloc hz _) hw3⟩

/-- whether Even goes one up -/
def up (c q r : Int) : Int := if c < 2 * r ∨ 2 * r = c ∧ q % 2 = 1 then 1 else 0

set_option maxHeartbeats 800000 in
theorem even_any (a b c : Int) (w : World) (ha : I a) (hb : I b) (hc : I c) :
    Calls Try.prog 20 #[.int .i64 a, .int .i64 b, .int .i64 c] w fun e w' => e = .returned (.tuple #[.int .i64 (evV (a * b) c), .int .i64 (evE (a * b) c)]) ∧ Below w.heap.size w w' := by
  have hN := prod_wd a b ha hb
  by_cases h0 : c ≤ 0
  · have hV : Hid (evV (a * b) c = 0) := by unfold evV; rw [if_pos h0]; rfl
    have hE : Hid (evE (a * b) c = 12) := by unfold evE; rw [if_pos h0]; rfl
    go_enter Try.func20, Try.ntmps20
    go_wp2_with fail
    refine (product_any a b _ ha hb).mono ?_
    rintro e w1 ⟨rfl, hw1⟩
    go_wp2_with fail
    refine (divide_zero (a * b) c _ h0).mono ?_
    rintro e w2 ⟨rfl, hw2⟩
    go_wp2
    go_ret2
    exact ⟨ret_two hV.out.symm hE.out.symm, (bl_trans hw1 hw2).alloc (bl_trans hw1 hw2).size _⟩
  · have hc2 : c ≤ 9223372036854775807 := hc.2
    by_cases h1 : 9223372036854775808 < absI (a * b) / c
    · have hout : ¬ I (evenI (a * b) c) := by
        rw [even_sg (a * b) c (by omega) (absI (a * b)) _ _ (neg? (a * b)) (sg_abs _) rfl rfl]
        exact out_sg _ _ _ h1 (by split <;> omega)
      have hV : Hid (evV (a * b) c = 0) := by unfold evV; rw [if_neg h0, cutV_out hout]; rfl
      have hE : Hid (evE (a * b) c = 11) := by unfold evE; rw [if_neg h0, cutE_out hout]; rfl
      clear hout
      go_enter Try.func20, Try.ntmps20
      go_wp2_with fail
      refine (product_any a b _ ha hb).mono ?_
      rintro e w1 ⟨rfl, hw1⟩
      go_wp2_with fail
      refine (divide_over (a * b) c _ hN (by omega) hc2 h1).mono ?_
      rintro e w2 ⟨rfl, hw2⟩
      go_wp2
      go_ret2
      exact ⟨ret_two hV.out.symm hE.out.symm, (bl_trans hw1 hw2).alloc (bl_trans hw1 hw2).size _⟩
    · have hfl := even_sg (a * b) c (by omega) (absI (a * b)) _ _ (neg? (a * b)) (sg_abs _) rfl rfl
      have hab := abs_bd _ hN
      have q0 : 0 ≤ absI (a * b) / c := Int.ediv_nonneg hab.1 (by omega)
      have q1 : absI (a * b) / c ≤ 9223372036854775808 := by omega
      have r0 : 0 ≤ absI (a * b) % c := Int.emod_nonneg _ (by omega)
      have r1 : absI (a * b) % c < c := Int.emod_lt_of_pos _ (by omega)
      clear h1
      obtain ⟨q, hq⟩ : ∃ q, q = absI (a * b) / c := ⟨_, rfl⟩
      obtain ⟨r, hr⟩ : ∃ r, r = absI (a * b) % c := ⟨_, rfl⟩
      obtain ⟨ng, hn⟩ : ∃ ng, ng = neg? (a * b) := ⟨_, rfl⟩
      have hd := divide_ok (a * b) c
      rw [← hq, ← hr, ← hn] at hfl hd
      rw [← hq] at q0 q1
      rw [← hr] at r0 r1
      have hV : Hid (evV (a * b) c = cutV (sg ng (q + up c q r))) := by unfold evV up; rw [if_neg h0, hfl]; rfl
      have hE : Hid (evE (a * b) c = cutE (sg ng (q + up c q r))) := by unfold evE up; rw [if_neg h0, hfl]; rfl
      have HD := fun w => Lib.hid (hd w hN (by omega) hc2 q1)
      clear hd hfl hq hr hn
      go_enter Try.func20, Try.ntmps20
      go_wp2_with fail
      refine (product_any a b _ ha hb).mono ?_
      rintro e w1 ⟨rfl, hw1⟩
      go_wp2_with fail
      refine (HD _).out.mono ?_
      rintro e w2 ⟨rfl, hw2⟩
      clear HD
      have hz := (bl_trans hw1 hw2).size
      by_cases hA : c < 2 * r
      · have hd : decide (c < 2 * r) = true := by simpa using hA
        have eu : Hid (up c q r = 1) := by unfold up; rw [if_pos (Or.inl hA)]; rfl
        go_wp2_with fail
        refine (signed_any ng (q + 1) r _ (by omega) (by omega)).mono ?_
        rintro e w3 ⟨rfl, hw3⟩
        go_wp2
        go_ret2
        exact ⟨ret_two (by rw [hV.out, eu.out]) (by rw [hE.out, eu.out]), bl_trans ((bl_trans hw1 hw2).alloc hz _) hw3⟩
      · have hd : decide (c < 2 * r) = false := by simpa using hA
        by_cases hB : 2 * r = c
        · have hd2 : (2 * r == c) = true := by simpa using hB
          have HB := Lib.hid hB; clear hB
          by_cases hC : q % 2 = 1
          · have hd3 : (q % 2 == 1) = true := by simpa using hC
            have eu : Hid (up c q r = 1) := by unfold up; rw [if_pos (Or.inr ⟨HB.out, hC⟩)]; rfl
            clear hC
            go_wp2_with fail
            refine (signed_any ng (q + 1) r _ (by omega) (by omega)).mono ?_
            rintro e w3 ⟨rfl, hw3⟩
            go_wp2
            go_ret2
            exact ⟨ret_two (by rw [hV.out, eu.out]) (by rw [hE.out, eu.out]), bl_trans ((bl_trans hw1 hw2).alloc hz _) hw3⟩
          · have hd3 : (q % 2 == 1) = false := by simpa using hC
            have eu : Hid (up c q r = 0) := by unfold up; rw [if_neg (by omega)]; rfl
            clear hC
            go_wp2_with fail
            refine (signed_any ng q r _ (by omega) (by omega)).mono ?_
            rintro e w3 ⟨rfl, hw3⟩
            go_wp2
            go_ret2
            exact ⟨ret_two (by rw [hV.out, eu.out]; simp) (by rw [hE.out, eu.out]; simp), bl_trans ((bl_trans hw1 hw2).alloc hz _) hw3⟩
        · have hd2 : (2 * r == c) = false := by simpa using hB
          have eu : Hid (up c q r = 0) := by unfold up; rw [if_neg (by omega)]; rfl
          clear hB
          go_wp2_with fail
          refine (signed_any ng q r _ (by omega) (by omega)).mono ?_
          rintro e w3 ⟨rfl, hw3⟩
          go_wp2
          go_ret2
          exact ⟨ret_two (by rw [hV.out, eu.out]; simp) (by rw [hE.out, eu.out]; simp), bl_trans ((bl_trans hw1 hw2).alloc hz _) hw3⟩

set_option maxHeartbeats 400000 in
theorem cmp_i64 (a b : Int) (w : World) : Calls Try.prog 55 #[.int .i64 a, .int .i64 b] w fun e w' => e = .returned (.int .i64 (cmpI a b)) ∧ w = w' := by
  by_cases h1 : a < b
  · have e : Hid (cmpI a b = -1) := by unfold cmpI; rw [if_pos h1]; rfl
    go_enter Try.func55, Try.ntmps55
    go_wp2
    go_ret
    exact ⟨ret_int e.out.symm, rfl⟩
  · by_cases h2 : b < a
    · have e : Hid (cmpI a b = 1) := by unfold cmpI; rw [if_neg h1, if_pos h2]; rfl
      go_enter Try.func55, Try.ntmps55
      go_wp2
      go_ret
      exact ⟨ret_int e.out.symm, rfl⟩
    · have e : Hid (cmpI a b = 0) := by unfold cmpI; rw [if_neg h1, if_neg h2]; rfl
      go_enter Try.func55, Try.ntmps55
      go_wp2
      go_ret
      exact ⟨ret_int e.out.symm, rfl⟩

set_option maxHeartbeats 400000 in
theorem cmp_u64 (a b : Int) (w : World) : Calls Try.prog 56 #[.int .u64 a, .int .u64 b] w fun e w' => e = .returned (.int .i64 (cmpI a b)) ∧ w = w' := by
  by_cases h1 : a < b
  · have e : Hid (cmpI a b = -1) := by unfold cmpI; rw [if_pos h1]; rfl
    go_enter Try.func56, Try.ntmps56
    go_wp2
    go_ret
    exact ⟨ret_int e.out.symm, rfl⟩
  · by_cases h2 : b < a
    · have e : Hid (cmpI a b = 1) := by unfold cmpI; rw [if_neg h1, if_pos h2]; rfl
      go_enter Try.func56, Try.ntmps56
      go_wp2
      go_ret
      exact ⟨ret_int e.out.symm, rfl⟩
    · have e : Hid (cmpI a b = 0) := by unfold cmpI; rw [if_neg h1, if_neg h2]; rfl
      go_enter Try.func56, Try.ntmps56
      go_wp2
      go_ret
      exact ⟨ret_int e.out.symm, rfl⟩

set_option maxHeartbeats 400000 in
theorem cross_any (a b c d : Int) (w : World) (ha : I a) (hb : I b) (hc : I c) (hd : I d) :
    Calls Try.prog 44 #[.int .i64 a, .int .i64 b, .int .i64 c, .int .i64 d] w fun e w' => e = .returned (.int .i64 (cmpI (a * b) (c * d))) ∧ Below w.heap.size w w' := by
  have h1 := product_any a b
  have h2 := product_any c d
  obtain ⟨p, hp⟩ : ∃ p, p = a * b := ⟨_, rfl⟩
  obtain ⟨q, hq⟩ : ∃ q, q = c * d := ⟨_, rfl⟩
  rw [← hp] at h1
  rw [← hq] at h2
  rw [← hp, ← hq]
  clear hp hq
  have H1 := fun w => Lib.hid (h1 w ha hb)
  have H2 := fun w => Lib.hid (h2 w hc hd)
  clear h1 h2
  by_cases he : p / 18446744073709551616 = q / 18446744073709551616
  · have hd1 : (p / 18446744073709551616 == q / 18446744073709551616) = true := by simpa using he
    have hd2 : (p / 18446744073709551616 != q / 18446744073709551616) = false := by rw [bne, hd1]; rfl
    have eC := Lib.hid (cmp_low p q he)
    clear he
    go_enter Try.func44, Try.ntmps44
    go_wp2_with fail
    refine (H1 _).out.mono ?_
    rintro e w1 ⟨rfl, hw1⟩
    go_wp2_with fail
    refine (H2 _).out.mono ?_
    rintro e w2 ⟨rfl, hw2⟩
    clear H1 H2
    go_wp2_with fail
    refine (cmp_u64 _ _ _).mono ?_
    rintro e w3 ⟨rfl, rfl⟩
    go_wp2
    go_ret
    exact ⟨ret_int eC.out, ((bl_trans hw1 hw2).alloc (bl_trans hw1 hw2).size _).alloc (by have := (bl_trans hw1 hw2).size; simp; omega) _⟩
  · have hd1 : (p / 18446744073709551616 == q / 18446744073709551616) = false := by simpa using he
    have hd2 : (p / 18446744073709551616 != q / 18446744073709551616) = true := by rw [bne, hd1]; rfl
    have eC := Lib.hid (cmp_halves p q he)
    clear he
    go_enter Try.func44, Try.ntmps44
    go_wp2_with fail
    refine (H1 _).out.mono ?_
    rintro e w1 ⟨rfl, hw1⟩
    go_wp2_with fail
    refine (H2 _).out.mono ?_
    rintro e w2 ⟨rfl, hw2⟩
    clear H1 H2
    go_wp2_with fail
    refine (cmp_i64 _ _ _).mono ?_
    rintro e w3 ⟨rfl, rfl⟩
    go_wp2
    go_ret
    exact ⟨ret_int eC.out, ((bl_trans hw1 hw2).alloc (bl_trans hw1 hw2).size _).alloc (by have := (bl_trans hw1 hw2).size; simp; omega) _⟩

end Go.Proofs.Ytaebbfaheaghfaa
