/- The contracts of package wide: each call answers what the document says of whole numbers of any size; nothing that was there before is changed. -/
import Derived.Test.YtaebbfaheaghfaaDiv
import Derived.Test.YtaebbfaheaghfaaWideMath
namespace Go.Proofs.Ytaebbfaheaghfaa
open Go.RowKit

theorem bcell {W w1 : World} (hb : Below W.heap.size W w1) : (∀ b o, b < W.heap.size → w1.cell? ⟨b, o, none⟩ = W.cell? ⟨b, o, none⟩) ∧ (∀ b o, b < W.heap.size → w1.frozen? ⟨b, o, none⟩ = W.frozen? ⟨b, o, none⟩) :=
  ⟨fun b o h => hb.cell (p := ⟨b, o, none⟩) h, fun b o h => hb.frozen (p := ⟨b, o, none⟩) h⟩

theorem bl_trans {w w1 w2 : World} (h : Below w.heap.size w w1) (k : Below w1.heap.size w1 w2) : Below w.heap.size w w2 := h.trans (k.mono h.size)

theorem bl_one {w w1 : World} {A : Obj} (h : Below (w.alloc A).heap.size (w.alloc A) w1) : Below w.heap.size w w1 :=
  bl_trans ((Below.refl _ _).alloc (Nat.le_refl _) A) h
theorem bl_two {w w1 : World} {A B : Obj} (h : Below ((w.alloc A).alloc B).heap.size ((w.alloc A).alloc B) w1) : Below w.heap.size w w1 :=
  bl_one (bl_one h)

theorem ret_two {j k : IntKind} {a b c d : Int} (h : a = b) (h2 : c = d) : Ending.returned (.tuple #[.int j a, .int k c]) = .returned (.tuple #[.int j b, .int k d]) := by rw [h, h2]

/-- Div64 over Int. -/
theorem div64_any (hi lo y : Int) (w : World) (h0 : 0 ≤ hi) (h1 : hi < y) (l0 : 0 ≤ lo) (l1 : lo < 18446744073709551616) (y1 : y < 18446744073709551616) :
    Calls Try.prog 47 #[.int .u64 hi, .int .u64 lo, .int .u64 y] w fun e w' => e = .returned (.tuple #[.int .u64 ((hi * 18446744073709551616 + lo) / y), .int .u64 ((hi * 18446744073709551616 + lo) % y)]) ∧ Below w.heap.size w w' := by
  by_cases hz : hi = 0
  · subst hz
    refine (div64_small lo y w l0 l1 (by omega) y1).mono ?_
    rintro e w' ⟨rfl, n, rfl⟩
    exact ⟨by simp, below_drewN (Below.refl _ _) n⟩
  · obtain ⟨hi, rfl⟩ := Int.eq_ofNat_of_zero_le h0
    obtain ⟨lo, rfl⟩ := Int.eq_ofNat_of_zero_le l0
    obtain ⟨y, rfl⟩ := Int.eq_ofNat_of_zero_le (show 0 ≤ y by omega)
    refine (div64_great hi lo y w (by omega) (by omega) (by omega) (by omega)).mono ?_
    rintro e w' ⟨rfl, rfl⟩
    exact ⟨by simp, Below.refl _ _⟩

theorem ret_agg {j k : IntKind} {a b c d : Int} (h : a = b) (h2 : c = d) : Ending.returned (.agg #[.int j a, .int k c]) = .returned (.agg #[.int j b, .int k d]) := by rw [h, h2]

theorem w64 (n : Int) : wrap64 n = (n + 9223372036854775808) % 18446744073709551616 - 9223372036854775808 := by simp only [wrap64]

set_option maxHeartbeats 400000 in
theorem add_any (a b : Int) (w : World) (ha : I a) (hb : I b) :
    Calls Try.prog 10 #[.int .i64 a, .int .i64 b] w fun e w' => e = .returned (.tuple #[.int .i64 (cutV (a + b)), .int .i64 (cutE (a + b))]) ∧ w = w' := by
  obtain ⟨a0, a1⟩ := ha
  obtain ⟨b0, b1⟩ := hb
  by_cases h1 : I (a + b)
  · have hV := Lib.hid (cutV_in h1)
    have hE := Lib.hid (cutE_in h1)
    obtain ⟨h2, h3⟩ := h1
    by_cases hb : b < 0
    · have hd : decide (a + b < a) = true := by simp; omega
      have hd2 : decide (b < 0) = true := by simp; omega
      go_enter Try.func10, Try.ntmps10
      go_wp2
      go_ret2
      exact ⟨ret_two hV.out.symm hE.out.symm, rfl⟩
    · have hd : decide (a + b < a) = false := by simp; omega
      have hd2 : decide (b < 0) = false := by simp; omega
      go_enter Try.func10, Try.ntmps10
      go_wp2
      go_ret2
      exact ⟨ret_two hV.out.symm hE.out.symm, rfl⟩
  · have hV := Lib.hid (cutV_out h1)
    have hE := Lib.hid (cutE_out h1)
    unfold I at h1
    by_cases hb : b < 0
    · have hd : decide (wrap64 (a + b) < a) = false := by rw [w64]; simp only [decide_eq_false_iff_not]; omega
      have hd2 : decide (b < 0) = true := by simp; omega
      clear h1
      go_enter Try.func10, Try.ntmps10
      go_wp2
      go_ret2
      exact ⟨ret_two hV.out.symm hE.out.symm, rfl⟩
    · have hd : decide (wrap64 (a + b) < a) = true := by rw [w64]; simp only [decide_eq_true_eq]; omega
      have hd2 : decide (b < 0) = false := by simp; omega
      clear h1
      go_enter Try.func10, Try.ntmps10
      go_wp2
      go_ret2
      exact ⟨ret_two hV.out.symm hE.out.symm, rfl⟩

set_option maxHeartbeats 400000 in
theorem sub_any (a b : Int) (w : World) (ha : I a) (hb : I b) :
    Calls Try.prog 11 #[.int .i64 a, .int .i64 b] w fun e w' => e = .returned (.tuple #[.int .i64 (cutV (a - b)), .int .i64 (cutE (a - b))]) ∧ w = w' := by
  obtain ⟨a0, a1⟩ := ha
  obtain ⟨b0, b1⟩ := hb
  by_cases h1 : I (a - b)
  · have hV := Lib.hid (cutV_in h1)
    have hE := Lib.hid (cutE_in h1)
    obtain ⟨h2, h3⟩ := h1
    by_cases hb : b < 0
    · have hd : decide (a < a - b) = true := by simp; omega
      have hd2 : decide (b < 0) = true := by simp; omega
      go_enter Try.func11, Try.ntmps11
      go_wp2
      go_ret2
      exact ⟨ret_two hV.out.symm hE.out.symm, rfl⟩
    · have hd : decide (a < a - b) = false := by simp; omega
      have hd2 : decide (b < 0) = false := by simp; omega
      go_enter Try.func11, Try.ntmps11
      go_wp2
      go_ret2
      exact ⟨ret_two hV.out.symm hE.out.symm, rfl⟩
  · have hV := Lib.hid (cutV_out h1)
    have hE := Lib.hid (cutE_out h1)
    unfold I at h1
    by_cases hb : b < 0
    · have hd : decide (a < wrap64 (a - b)) = false := by rw [w64]; simp only [decide_eq_false_iff_not]; omega
      have hd2 : decide (b < 0) = true := by simp; omega
      clear h1
      go_enter Try.func11, Try.ntmps11
      go_wp2
      go_ret2
      exact ⟨ret_two hV.out.symm hE.out.symm, rfl⟩
    · have hd : decide (a < wrap64 (a - b)) = true := by rw [w64]; simp only [decide_eq_true_eq]; omega
      have hd2 : decide (b < 0) = false := by simp; omega
      clear h1
      go_enter Try.func11, Try.ntmps11
      go_wp2
      go_ret2
      exact ⟨ret_two hV.out.symm hE.out.symm, rfl⟩

set_option maxHeartbeats 400000 in
theorem product_any (a b : Int) (w : World) (ha : I a) (hb : I b) :
    Calls Try.prog 31 #[.int .i64 a, .int .i64 b] w fun e w' => e = .returned (.agg #[.int .i64 (a * b / 18446744073709551616), .int .u64 (a * b % 18446744073709551616)]) ∧ Below w.heap.size w w' := by
  have hp := prod_bd a b ha hb
  obtain ⟨A, hA⟩ : ∃ A, A = a % 18446744073709551616 := ⟨_, rfl⟩
  obtain ⟨B, hB⟩ : ∃ B, B = b % 18446744073709551616 := ⟨_, rfl⟩
  have hh := prod_hi a b A B ha hb hA hB
  obtain ⟨a0, a1⟩ := ha
  obtain ⟨b0, b1⟩ := hb
  have eA : IntKind.u64.wrap a = A := by rw [IntKind.wrap_u64, hA]
  have eB : IntKind.u64.wrap b = B := by rw [IntKind.wrap_u64, hB]
  have A0 : 0 ≤ A := by omega
  have A1 : A < 18446744073709551616 := by omega
  have B0 : 0 ≤ B := by omega
  have B1 : B < 18446744073709551616 := by omega
  clear hA hB
  obtain ⟨h1, h2⟩ := hh
  have H2 := Lib.hid h2; clear h2
  obtain ⟨hp1, hp2⟩ := hp
  by_cases ha : a < 0 <;> by_cases hb : b < 0
  all_goals
    simp only [ha, hb, if_true, if_false] at h1
    have H1 := Lib.hid h1; clear h1
    go_enter Try.func31, Try.ntmps31
    go_wp2_with (go_at_call 45; refine (mul64_any _ _ _ A0 A1 B0 B1).mono ?_; rintro e w' ⟨rfl, rfl⟩)
    refine bodyPost_ret (by simp [results, Try.results31, go_sem]; rfl) rfl ⟨ret_agg ?_ H2.out, (Below.refl _ _).alloc (Nat.le_refl _) _⟩
    have h1 := H1.out
    try simp only [IntKind.wrap_u64]
    generalize A * B / 18446744073709551616 = h at *
    generalize a * b = p at *
    rw [w64]
    omega

/-- 128 bits: the halves of N. -/
def hiW (N : Int) : Int := N / 18446744073709551616
def loW (N : Int) : Int := N % 18446744073709551616
/-- a number whose upper half is one of 64 bits, by far -/
def Wd (N : Int) : Prop := -170141183460469231731687303715884105728 ≤ N ∧ N < 170141183460469231731687303715884105728
theorem lo_bd (N : Int) : 0 ≤ loW N ∧ loW N ≤ 18446744073709551615 := by unfold loW; omega
theorem hi_bd (N : Int) (h : Wd N) : -9223372036854775808 ≤ hiW N ∧ hiW N ≤ 9223372036854775807 := by unfold hiW; unfold Wd at h; omega

set_option maxHeartbeats 400000 in
theorem narrow_any (N : Int) (w : World) (hN : Wd N) :
    Calls Try.prog 32 #[.agg #[.int .i64 (hiW N), .int .u64 (loW N)]] w fun e w' => e = .returned (.tuple #[.int .i64 (cutV N), .int .i64 (cutE N)]) ∧ Below w.heap.size w w' := by
  have lb := lo_bd N
  have hb := hi_bd N hN
  obtain ⟨n, hn⟩ : ∃ n, n = wrap64 (loW N) := ⟨_, rfl⟩
  have en : wrap64 (loW N) = n := hn.symm
  rw [w64] at hn
  have n0 : -9223372036854775808 ≤ n := by omega
  have n1 : n ≤ 9223372036854775807 := by omega
  obtain ⟨l0, l1⟩ := lb
  obtain ⟨b0, b1⟩ := hb
  by_cases h1 : I N
  · have hV := Lib.hid (cutV_in h1)
    have hE := Lib.hid (cutE_in h1)
    have hnN : n = N := by unfold loW at hn; unfold I at h1; omega
    have hd : (hiW N == n / 9223372036854775808) = true := by rw [beq_iff_eq, hnN]; unfold hiW; unfold I at h1; omega
    have hd2 : (hiW N != n / 9223372036854775808) = false := by rw [bne, hd]; rfl
    clear hn hN h1
    have HnN := Lib.hid hnN; clear hnN
    go_enter Try.func32, Try.ntmps32
    go_wp2
    go_ret2
    exact ⟨ret_two (by rw [hV.out, en, HnN.out]) hE.out.symm, (Below.refl _ _).alloc (Nat.le_refl _) _⟩
  · have hV := Lib.hid (cutV_out h1)
    have hE := Lib.hid (cutE_out h1)
    have hne : ¬ hiW N = n / 9223372036854775808 := by unfold I at h1; unfold loW at hn; unfold hiW; omega
    have hd : (hiW N == n / 9223372036854775808) = false := by rw [beq_eq_false_iff_ne]; exact hne
    have hd2 : (hiW N != n / 9223372036854775808) = true := by rw [bne, hd]; rfl
    clear hn hN h1
    go_enter Try.func32, Try.ntmps32
    go_wp2
    go_ret2
    exact ⟨ret_two hV.out.symm hE.out.symm, (Below.refl _ _).alloc (Nat.le_refl _) _⟩

theorem prod_wd (a b : Int) (ha : I a) (hb : I b) : Wd (a * b) := by
  have := prod_bd a b ha hb
  unfold Wd
  omega

set_option maxHeartbeats 400000 in
theorem mul_any (a b : Int) (w : World) (ha : I a) (hb : I b) :
    Calls Try.prog 12 #[.int .i64 a, .int .i64 b] w fun e w' => e = .returned (.tuple #[.int .i64 (cutV (a * b)), .int .i64 (cutE (a * b))]) ∧ Below w.heap.size w w' := by
  go_enter Try.func12, Try.ntmps12
  go_wp2_with fail
  refine (product_any a b _ ha hb).mono ?_
  rintro e w1 ⟨rfl, hw1⟩
  go_wp2_with fail
  refine (narrow_any (a * b) _ (prod_wd a b ha hb)).mono ?_
  rintro e w2 ⟨rfl, hw2⟩
  go_wp2
  go_ret2
  exact ⟨rfl, bl_trans hw1 hw2⟩

set_option maxHeartbeats 400000 in
theorem plus_any (N n : Int) (w : World) (hN : Wd N) (hn : I n) (hS : Wd (N + n)) :
    Calls Try.prog 52 #[.agg #[.int .i64 (hiW N), .int .u64 (loW N)], .int .i64 n] w fun e w' => e = .returned (.agg #[.int .i64 (hiW (N + n)), .int .u64 (loW (N + n))]) ∧ Below w.heap.size w w' := by
  obtain ⟨l0, l1⟩ := lo_bd N
  obtain ⟨b0, b1⟩ := hi_bd N hN
  obtain ⟨n0, n1⟩ := hn
  obtain ⟨A, hA⟩ : ∃ A, A = n % 18446744073709551616 := ⟨_, rfl⟩
  have eA : IntKind.u64.wrap n = A := by rw [IntKind.wrap_u64, hA]
  have A0 : 0 ≤ A := by omega
  have A1 : A < 18446744073709551616 := by omega
  have HA := Lib.hid hA; clear hA
  go_enter Try.func52, Try.ntmps52
  go_wp2_with (simp only [add64_0 (loW N) A l0 A0])
  refine bodyPost_ret (by simp [results, Try.results52, go_sem]; exact ⟨rfl, rfl⟩) rfl ⟨ret_agg ?_ ?_, ((Below.refl _ _).alloc (Nat.le_refl _) _).alloc (by simp) _⟩
  · have hA := HA.out
    unfold Wd at hN hS
    unfold hiW loW at *
    simp only [w64]
    omega
  · have hA := HA.out
    unfold loW at *
    omega

/-- the size of a number -/
def absI (N : Int) : Int := if N < 0 then -N else N
theorem abs_bd (N : Int) (h : Wd N) : 0 ≤ absI N ∧ absI N ≤ 170141183460469231731687303715884105728 := by unfold absI; unfold Wd at h; split <;> omega

set_option maxHeartbeats 400000 in
theorem size_any (N : Int) (w : World) (hN : Wd N) :
    Calls Try.prog 46 #[.agg #[.int .i64 (hiW N), .int .u64 (loW N)]] w fun e w' => e = .returned (.tuple #[.int .u64 (hiW (absI N)), .int .u64 (loW (absI N))]) ∧ Below w.heap.size w w' := by
  obtain ⟨l0, l1⟩ := lo_bd N
  obtain ⟨b0, b1⟩ := hi_bd N hN
  by_cases hs : N < 0
  · have hd : decide (0 ≤ hiW N) = false := by unfold hiW; simp only [decide_eq_false_iff_not]; omega
    have eS : Hid (absI N = -N) := by unfold absI; rw [if_pos hs]; rfl
    obtain ⟨A, hA⟩ : ∃ A, A = hiW N % 18446744073709551616 := ⟨_, rfl⟩
    have eA : IntKind.u64.wrap (hiW N) = A := by rw [IntKind.wrap_u64, hA]
    have A0 : 0 ≤ A := by omega
    have A1 : A < 18446744073709551616 := by omega
    have HA := Lib.hid hA; clear hA
    obtain ⟨k0, k1⟩ := bor_01 0 (loW N)
    go_enter Try.func46, Try.ntmps46
    go_wp2_with (first | simp only [sub64_0 0 (loW N) (by omega) l0 (by omega)] | simp only [sub64 0 A _ (by omega) A0 A1 k0 k1])
    go_ret2
    refine ⟨ret_two ?_ ?_, (Below.refl _ _).alloc (Nat.le_refl _) _⟩
    · have hA := HA.out
      rw [eS.out]
      unfold Wd at hN
      unfold bor loW hiW at *
      split <;> omega
    · rw [eS.out]
      unfold loW at *
      omega
  · have hd : decide (0 ≤ hiW N) = true := by unfold hiW; simp only [decide_eq_true_eq]; omega
    have h0 : 0 ≤ hiW N := by unfold hiW; omega
    have eS : Hid (absI N = N) := by unfold absI; rw [if_neg hs]; rfl
    go_enter Try.func46, Try.ntmps46
    go_wp2
    go_quiet (fail)
    go_wp2
    go_ret2
    refine ⟨ret_two ?_ ?_, below_drewN ((Below.refl _ _).alloc (Nat.le_refl _) _) _⟩
    · rw [eS.out]
    · rw [eS.out]

set_option maxHeartbeats 400000 in
theorem divide_zero (N c : Int) (w : World) (hc : c ≤ 0) :
    Calls Try.prog 37 #[.agg #[.int .i64 (hiW N), .int .u64 (loW N)], .int .i64 c] w fun e w' => e = .returned (.tuple #[.agg #[.bool false, .int .u64 0, .int .u64 0], .int .i64 12]) ∧ Below w.heap.size w w' := by
  go_enter Try.func37, Try.ntmps37
  go_wp2
  exact bodyPost_ret (by simp [results, Try.results37, go_sem]) rfl ⟨rfl, ((Below.refl _ _).alloc (Nat.le_refl _) _).alloc (by simp) _⟩

theorem quo_over (S c : Int) (h : c ≤ hiW S) (hc : 0 < c) : 18446744073709551616 ≤ S / c := by
  unfold hiW at h
  rw [Int.le_ediv_iff_mul_le hc]
  omega

theorem quo_in (S c : Int) (h : hiW S < c) (hc : 0 < c) (hS : 0 ≤ S) : 0 ≤ S / c ∧ S / c ≤ 18446744073709551615 := by
  unfold hiW at h
  refine ⟨Int.ediv_nonneg hS (by omega), ?_⟩
  have : S / c < 18446744073709551616 := by
    rw [Int.ediv_lt_iff_lt_mul hc]
    omega
  omega

theorem halves_back (S : Int) : hiW S * 18446744073709551616 + loW S = S := by unfold hiW loW; omega

def neg? (N : Int) : Bool := decide (N < 0)

set_option maxHeartbeats 800000 in
theorem divide_over (N c : Int) (w : World) (hN : Wd N) (hc : 0 < c) (hc2 : c ≤ 9223372036854775807) (hq : 9223372036854775808 < absI N / c) :
    Calls Try.prog 37 #[.agg #[.int .i64 (hiW N), .int .u64 (loW N)], .int .i64 c] w fun e w' => e = .returned (.tuple #[.agg #[.bool false, .int .u64 0, .int .u64 0], .int .i64 11]) ∧ Below w.heap.size w w' := by
  have hab := abs_bd N hN
  obtain ⟨s0, s1⟩ := lo_bd (absI N)
  have hh : 0 ≤ hiW (absI N) := by unfold hiW; omega
  have hd0 : decide (c ≤ 0) = false := by simp only [decide_eq_false_iff_not]; omega
  by_cases h1 : c ≤ hiW (absI N)
  · have hd : decide (c ≤ hiW (absI N)) = true := by simpa using h1
    go_enter Try.func37, Try.ntmps37
    go_wp2_with fail
    refine (size_any N _ hN).mono ?_
    rintro e w1 ⟨rfl, hw1⟩
    obtain ⟨hcl, hfz⟩ := bcell hw1
    have hz : w.heap.size + 1 < w1.heap.size := by have := hw1.size; simp at this; omega
    go_wp2
    exact bodyPost_ret (by simp [results, Try.results37, go_sem, hcl]) rfl ⟨rfl, (((bl_two hw1).setCell (by simp) _).setCell (by simp) _).setCell (by simp) _⟩
  · have hd : decide (c ≤ hiW (absI N)) = false := by simpa using h1
    have hback := halves_back (absI N)
    have hd2 : decide (9223372036854775808 < absI N / c) = true := by simpa using hq
    go_enter Try.func37, Try.ntmps37
    go_wp2_with fail
    refine (size_any N _ hN).mono ?_
    rintro e w1 ⟨rfl, hw1⟩
    obtain ⟨hcl, hfz⟩ := bcell hw1
    have hz : w.heap.size + 1 < w1.heap.size := by have := hw1.size; simp at this; omega
    go_wp2_with fail
    refine (div64_any (hiW (absI N)) (loW (absI N)) c _ hh (by omega) s0 (by omega) (by omega)).mono ?_
    rintro e w2 ⟨rfl, hw2⟩
    rw [hback]
    obtain ⟨hcl2, hfz2⟩ := bcell hw2
    have hz2 : w.heap.size + 1 < w2.heap.size := by have := hw2.size; omega
    go_wp2
    exact bodyPost_ret (by simp [results, Try.results37, go_sem, hcl, hz, hcl2]) rfl ⟨rfl, (((bl_trans (bl_two hw1) hw2).setCell (by simp) _).setCell (by simp) _).setCell (by simp) _⟩

set_option maxHeartbeats 800000 in
theorem divide_ok (N c : Int) (w : World) (hN : Wd N) (hc : 0 < c) (hc2 : c ≤ 9223372036854775807) (hq : absI N / c ≤ 9223372036854775808) :
    Calls Try.prog 37 #[.agg #[.int .i64 (hiW N), .int .u64 (loW N)], .int .i64 c] w fun e w' => e = .returned (.tuple #[.agg #[.bool (neg? N), .int .u64 (absI N / c), .int .u64 (absI N % c)], .int .i64 0]) ∧ Below w.heap.size w w' := by
  have hab := abs_bd N hN
  obtain ⟨s0, s1⟩ := lo_bd (absI N)
  have hh : 0 ≤ hiW (absI N) := by unfold hiW; omega
  have hd0 : decide (c ≤ 0) = false := by simp only [decide_eq_false_iff_not]; omega
  have h1 : ¬ c ≤ hiW (absI N) := by
    intro h
    have := quo_over _ _ h hc
    omega
  have hd : decide (c ≤ hiW (absI N)) = false := by simpa using h1
  have hback := halves_back (absI N)
  have hd2 : decide (9223372036854775808 < absI N / c) = false := by simp only [decide_eq_false_iff_not]; omega
  have hng : decide (hiW N < 0) = neg? N := by
    unfold neg? hiW
    rw [Bool.eq_iff_iff]
    simp only [decide_eq_true_eq]
    omega
  go_enter Try.func37, Try.ntmps37
  go_wp2_with fail
  refine (size_any N _ hN).mono ?_
  rintro e w1 ⟨rfl, hw1⟩
  obtain ⟨hcl, hfz⟩ := bcell hw1
  have hz : w.heap.size + 1 < w1.heap.size := by have := hw1.size; simp at this; omega
  have hz0 : w.heap.size < w1.heap.size := by omega
  go_wp2_with fail
  refine (div64_any (hiW (absI N)) (loW (absI N)) c _ hh (by omega) s0 (by omega) (by omega)).mono ?_
  rintro e w2 ⟨rfl, hw2⟩
  rw [hback]
  obtain ⟨hcl2, hfz2⟩ := bcell hw2
  have hz2 : w.heap.size + 1 < w2.heap.size := by have := hw2.size; omega
  go_wp2
  exact bodyPost_ret (v := .tuple #[.agg #[.bool (neg? N), .int .u64 (absI N / c), .int .u64 (absI N % c)], .int .i64 0]) (by simp [results, Try.results37, go_sem, hcl, hz, hcl2]) rfl ⟨rfl, (((bl_trans (bl_two hw1) hw2).setCell (by simp) _).setCell (by simp) _).setCell (by simp) _⟩

set_option maxHeartbeats 400000 in
theorem signed_any (neg : Bool) (q r : Int) (w : World) (h0 : 0 ≤ q) (h1 : q ≤ 18446744073709551615) :
    Calls Try.prog 38 #[.agg #[.bool neg, .int .u64 q, .int .u64 r]] w fun e w' => e = .returned (.tuple #[.int .i64 (cutV (sg neg q)), .int .i64 (cutE (sg neg q))]) ∧ Below w.heap.size w w' := by
  by_cases hI : I (sg neg q)
  · have hV := Lib.hid (cutV_in hI)
    have hE := Lib.hid (cutE_in hI)
    unfold I sg at hI
    cases neg
    · simp at hI
      have hd : decide (q < 9223372036854775808) = true := by simp only [decide_eq_true_eq]; omega
      obtain ⟨hI1, hI2⟩ := hI
      go_enter Try.func38, Try.ntmps38
      go_wp2
      go_ret2
      refine ⟨ret_two ?_ hE.out.symm, (Below.refl _ _).alloc (Nat.le_refl _) _⟩
      rw [hV.out]
      simp [sg]
    · simp at hI
      have hd : decide (q ≤ 9223372036854775808) = true := by simp only [decide_eq_true_eq]; omega
      go_enter Try.func38, Try.ntmps38
      go_wp2
      go_ret2
      refine ⟨ret_two ?_ hE.out.symm, (Below.refl _ _).alloc (Nat.le_refl _) _⟩
      rw [hV.out]
      simp only [sg, w64, IntKind.wrap_u64, if_true]
      omega
  · have hV := Lib.hid (cutV_out hI)
    have hE := Lib.hid (cutE_out hI)
    unfold I sg at hI
    cases neg
    · simp at hI
      have hd : decide (q < 9223372036854775808) = false := by simp only [decide_eq_false_iff_not]; omega
      clear hI
      go_enter Try.func38, Try.ntmps38
      go_wp2
      go_ret2
      exact ⟨ret_two hV.out.symm hE.out.symm, (Below.refl _ _).alloc (Nat.le_refl _) _⟩
    · simp at hI
      have hd : decide (q ≤ 9223372036854775808) = false := by simp only [decide_eq_false_iff_not]; omega
      clear hI
      go_enter Try.func38, Try.ntmps38
      go_wp2
      go_ret2
      exact ⟨ret_two hV.out.symm hE.out.symm, (Below.refl _ _).alloc (Nat.le_refl _) _⟩

end Go.Proofs.Ytaebbfaheaghfaa
