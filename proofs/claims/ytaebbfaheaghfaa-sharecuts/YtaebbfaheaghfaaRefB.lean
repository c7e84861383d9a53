/- The contracts of falseworkref01, second part: minus, half, shifted. -/
import Derived.Test.YtaebbfaheaghfaaRefDig
namespace Go.Proofs.Ytaebbfaheaghfaa
open Go.RowKit

/-- the digits of a together, digit by digit -/
theorem sum_dgt (n : Int) (h0 : 0 ≤ n) (h1 : n < 1461501637330902918203684832716283019655932542976) : dgt n 0 + dgt n 1 * 65536 + dgt n 2 * 4294967296 + dgt n 3 * 281474976710656 + dgt n 4 * 18446744073709551616 + dgt n 5 * 1208925819614629174706176 + dgt n 6 * 79228162514264337593543950336 + dgt n 7 * 5192296858534827628530496329220096 + dgt n 8 * 340282366920938463463374607431768211456 + dgt n 9 * 22300745198530623141535718272648361505980416 = n := by
  have := dgt_val n h0 h1
  unfold val at this
  omega

theorem bor_step (a b r x s : Int) (ha : 0 ≤ a ∧ a ≤ 65535) (hb : 0 ≤ b ∧ b ≤ 65535) (hr : 0 ≤ r ∧ r ≤ 1) (hx : a + 65536 - b - r = x) (hs : 1 - x / 65536 = s) :
    (0 ≤ x ∧ x ≤ 131071) ∧ (0 ≤ s ∧ s ≤ 1) ∧ x % 65536 = a - b - r + 65536 * s ∧ 0 ≤ x % 65536 ∧ x % 65536 ≤ 65535 := by omega

theorem minus_fin (a b a0 a1 a2 a3 a4 a5 a6 a7 a8 a9 b0 b1 b2 b3 b4 b5 b6 b7 b8 b9 y0 y1 y2 y3 y4 y5 y6 y7 y8 y9 r0 r1 r2 r3 r4 r5 r6 r7 r8 r9 : Int)
    (ha : a0 + a1 * 65536 + a2 * 4294967296 + a3 * 281474976710656 + a4 * 18446744073709551616 + a5 * 1208925819614629174706176 + a6 * 79228162514264337593543950336 + a7 * 5192296858534827628530496329220096 + a8 * 340282366920938463463374607431768211456 + a9 * 22300745198530623141535718272648361505980416 = a) (hb : b0 + b1 * 65536 + b2 * 4294967296 + b3 * 281474976710656 + b4 * 18446744073709551616 + b5 * 1208925819614629174706176 + b6 * 79228162514264337593543950336 + b7 * 5192296858534827628530496329220096 + b8 * 340282366920938463463374607431768211456 + b9 * 22300745198530623141535718272648361505980416 = b) (hab : b ≤ a)
    (e0 : y0 = a0 - b0 - 0 + 65536 * r0) (c0 : 0 ≤ y0 ∧ y0 ≤ 65535) (e1 : y1 = a1 - b1 - r0 + 65536 * r1) (c1 : 0 ≤ y1 ∧ y1 ≤ 65535) (e2 : y2 = a2 - b2 - r1 + 65536 * r2) (c2 : 0 ≤ y2 ∧ y2 ≤ 65535) (e3 : y3 = a3 - b3 - r2 + 65536 * r3) (c3 : 0 ≤ y3 ∧ y3 ≤ 65535) (e4 : y4 = a4 - b4 - r3 + 65536 * r4) (c4 : 0 ≤ y4 ∧ y4 ≤ 65535) (e5 : y5 = a5 - b5 - r4 + 65536 * r5) (c5 : 0 ≤ y5 ∧ y5 ≤ 65535) (e6 : y6 = a6 - b6 - r5 + 65536 * r6) (c6 : 0 ≤ y6 ∧ y6 ≤ 65535) (e7 : y7 = a7 - b7 - r6 + 65536 * r7) (c7 : 0 ≤ y7 ∧ y7 ≤ 65535) (e8 : y8 = a8 - b8 - r7 + 65536 * r8) (c8 : 0 ≤ y8 ∧ y8 ≤ 65535) (e9 : y9 = a9 - b9 - r8 + 65536 * r9) (c9 : 0 ≤ y9 ∧ y9 ≤ 65535) (hr : 0 ≤ r9 ∧ r9 ≤ 1) :
    y0 = dgt (a - b) 0 ∧ y1 = dgt (a - b) 1 ∧ y2 = dgt (a - b) 2 ∧ y3 = dgt (a - b) 3 ∧ y4 = dgt (a - b) 4 ∧ y5 = dgt (a - b) 5 ∧ y6 = dgt (a - b) 6 ∧ y7 = dgt (a - b) 7 ∧ y8 = dgt (a - b) 8 ∧ y9 = dgt (a - b) 9 := by
  refine dgt_uniq _ _ _ _ _ _ _ _ _ _ _ ?_ c0 c1 c2 c3 c4 c5 c6 c7 c8 c9
  omega

set_option maxHeartbeats 4000000 in
theorem minus_any (a b : Int) (w : World) (a1 : a < 1461501637330902918203684832716283019655932542976) (b0 : 0 ≤ b) (hab : b ≤ a) :
    Calls Try.prog 36 #[D a, D b] w fun e w' => e = .returned (D (a - b)) ∧ ∃ X Y Z n, w' = (((w.alloc X).alloc Y).alloc Z).drewN n := by
  have HA := Lib.hid (sum_dgt a (by omega) a1)
  have HB := Lib.hid (sum_dgt b b0 (by omega))
  have HAB := Lib.hid hab
  clear a1 b0 hab
  have s : (0 : Int) ≤ 0 ∧ (0 : Int) ≤ 1 := by omega
  have p0 := dgt_bd a 0
  have q0 := dgt_bd b 0
  obtain ⟨x0, h0⟩ : ∃ x, dgt a 0 + 65536 - dgt b 0 - 0 = x := ⟨_, rfl⟩
  obtain ⟨r0, k0⟩ : ∃ r, 1 - x0 / 65536 = r := ⟨_, rfl⟩
  have t0 := bor_step _ _ _ _ _ p0 q0 s h0 k0
  obtain ⟨c0, s0, t0⟩ := t0
  rw [Int.sub_zero] at h0
  have H0 := Lib.hid h0
  have K0 := Lib.hid k0
  have T0 := Lib.hid t0
  clear h0 k0 t0
  have p1 := dgt_bd a 1
  have q1 := dgt_bd b 1
  obtain ⟨x1, h1⟩ : ∃ x, dgt a 1 + 65536 - dgt b 1 - r0 = x := ⟨_, rfl⟩
  obtain ⟨r1, k1⟩ : ∃ r, 1 - x1 / 65536 = r := ⟨_, rfl⟩
  have t1 := bor_step _ _ _ _ _ p1 q1 s0 h1 k1
  obtain ⟨c1, s1, t1⟩ := t1
  have H1 := Lib.hid h1
  have K1 := Lib.hid k1
  have T1 := Lib.hid t1
  clear h1 k1 t1
  have p2 := dgt_bd a 2
  have q2 := dgt_bd b 2
  obtain ⟨x2, h2⟩ : ∃ x, dgt a 2 + 65536 - dgt b 2 - r1 = x := ⟨_, rfl⟩
  obtain ⟨r2, k2⟩ : ∃ r, 1 - x2 / 65536 = r := ⟨_, rfl⟩
  have t2 := bor_step _ _ _ _ _ p2 q2 s1 h2 k2
  obtain ⟨c2, s2, t2⟩ := t2
  have H2 := Lib.hid h2
  have K2 := Lib.hid k2
  have T2 := Lib.hid t2
  clear h2 k2 t2
  have p3 := dgt_bd a 3
  have q3 := dgt_bd b 3
  obtain ⟨x3, h3⟩ : ∃ x, dgt a 3 + 65536 - dgt b 3 - r2 = x := ⟨_, rfl⟩
  obtain ⟨r3, k3⟩ : ∃ r, 1 - x3 / 65536 = r := ⟨_, rfl⟩
  have t3 := bor_step _ _ _ _ _ p3 q3 s2 h3 k3
  obtain ⟨c3, s3, t3⟩ := t3
  have H3 := Lib.hid h3
  have K3 := Lib.hid k3
  have T3 := Lib.hid t3
  clear h3 k3 t3
  have p4 := dgt_bd a 4
  have q4 := dgt_bd b 4
  obtain ⟨x4, h4⟩ : ∃ x, dgt a 4 + 65536 - dgt b 4 - r3 = x := ⟨_, rfl⟩
  obtain ⟨r4, k4⟩ : ∃ r, 1 - x4 / 65536 = r := ⟨_, rfl⟩
  have t4 := bor_step _ _ _ _ _ p4 q4 s3 h4 k4
  obtain ⟨c4, s4, t4⟩ := t4
  have H4 := Lib.hid h4
  have K4 := Lib.hid k4
  have T4 := Lib.hid t4
  clear h4 k4 t4
  have p5 := dgt_bd a 5
  have q5 := dgt_bd b 5
  obtain ⟨x5, h5⟩ : ∃ x, dgt a 5 + 65536 - dgt b 5 - r4 = x := ⟨_, rfl⟩
  obtain ⟨r5, k5⟩ : ∃ r, 1 - x5 / 65536 = r := ⟨_, rfl⟩
  have t5 := bor_step _ _ _ _ _ p5 q5 s4 h5 k5
  obtain ⟨c5, s5, t5⟩ := t5
  have H5 := Lib.hid h5
  have K5 := Lib.hid k5
  have T5 := Lib.hid t5
  clear h5 k5 t5
  have p6 := dgt_bd a 6
  have q6 := dgt_bd b 6
  obtain ⟨x6, h6⟩ : ∃ x, dgt a 6 + 65536 - dgt b 6 - r5 = x := ⟨_, rfl⟩
  obtain ⟨r6, k6⟩ : ∃ r, 1 - x6 / 65536 = r := ⟨_, rfl⟩
  have t6 := bor_step _ _ _ _ _ p6 q6 s5 h6 k6
  obtain ⟨c6, s6, t6⟩ := t6
  have H6 := Lib.hid h6
  have K6 := Lib.hid k6
  have T6 := Lib.hid t6
  clear h6 k6 t6
  have p7 := dgt_bd a 7
  have q7 := dgt_bd b 7
  obtain ⟨x7, h7⟩ : ∃ x, dgt a 7 + 65536 - dgt b 7 - r6 = x := ⟨_, rfl⟩
  obtain ⟨r7, k7⟩ : ∃ r, 1 - x7 / 65536 = r := ⟨_, rfl⟩
  have t7 := bor_step _ _ _ _ _ p7 q7 s6 h7 k7
  obtain ⟨c7, s7, t7⟩ := t7
  have H7 := Lib.hid h7
  have K7 := Lib.hid k7
  have T7 := Lib.hid t7
  clear h7 k7 t7
  have p8 := dgt_bd a 8
  have q8 := dgt_bd b 8
  obtain ⟨x8, h8⟩ : ∃ x, dgt a 8 + 65536 - dgt b 8 - r7 = x := ⟨_, rfl⟩
  obtain ⟨r8, k8⟩ : ∃ r, 1 - x8 / 65536 = r := ⟨_, rfl⟩
  have t8 := bor_step _ _ _ _ _ p8 q8 s7 h8 k8
  obtain ⟨c8, s8, t8⟩ := t8
  have H8 := Lib.hid h8
  have K8 := Lib.hid k8
  have T8 := Lib.hid t8
  clear h8 k8 t8
  have p9 := dgt_bd a 9
  have q9 := dgt_bd b 9
  obtain ⟨x9, h9⟩ : ∃ x, dgt a 9 + 65536 - dgt b 9 - r8 = x := ⟨_, rfl⟩
  obtain ⟨r9, k9⟩ : ∃ r, 1 - x9 / 65536 = r := ⟨_, rfl⟩
  have t9 := bor_step _ _ _ _ _ p9 q9 s8 h9 k9
  obtain ⟨c9, s9, t9⟩ := t9
  have H9 := Lib.hid h9
  have K9 := Lib.hid k9
  have T9 := Lib.hid t9
  clear h9 k9 t9
  go_enter Try.func36, Try.ntmps36
  go_wp2
  refine wp_loop_rounds 11 ?_
  have h0 := H0.out; have k0 := K0.out; rw [rounds_succ]; go_wp2; go_region; go_wp2; clear h0 k0
  have h1 := H1.out; have k1 := K1.out; rw [rounds_succ]; go_wp2; go_region; go_wp2; clear h1 k1
  have h2 := H2.out; have k2 := K2.out; rw [rounds_succ]; go_wp2; go_region; go_wp2; clear h2 k2
  have h3 := H3.out; have k3 := K3.out; rw [rounds_succ]; go_wp2; go_region; go_wp2; clear h3 k3
  have h4 := H4.out; have k4 := K4.out; rw [rounds_succ]; go_wp2; go_region; go_wp2; clear h4 k4
  have h5 := H5.out; have k5 := K5.out; rw [rounds_succ]; go_wp2; go_region; go_wp2; clear h5 k5
  have h6 := H6.out; have k6 := K6.out; rw [rounds_succ]; go_wp2; go_region; go_wp2; clear h6 k6
  have h7 := H7.out; have k7 := K7.out; rw [rounds_succ]; go_wp2; go_region; go_wp2; clear h7 k7
  have h8 := H8.out; have k8 := K8.out; rw [rounds_succ]; go_wp2; go_region; go_wp2; clear h8 k8
  have h9 := H9.out; have k9 := K9.out; rw [rounds_succ]; go_wp2; go_region; go_wp2; clear h9 k9
  rw [rounds_succ]
  go_wp2
  refine bodyPost_ret (v := .agg #[.int .u64 (x0 % 65536), .int .u64 (x1 % 65536), .int .u64 (x2 % 65536), .int .u64 (x3 % 65536), .int .u64 (x4 % 65536), .int .u64 (x5 % 65536), .int .u64 (x6 % 65536), .int .u64 (x7 % 65536), .int .u64 (x8 % 65536), .int .u64 (x9 % 65536)]) (by simp [results, Try.results36, go_sem]) rfl ⟨?_, _, _, _, 10, rfl⟩
  exact ret_dig (minus_fin a b _ _ _ _ _ _ _ _ _ _ _ _ _ _ _ _ _ _ _ _ _ _ _ _ _ _ _ _ _ _ _ _ _ _ _ _ _ _ _ _ HA.out HB.out HAB.out T0.out.1 T0.out.2 T1.out.1 T1.out.2 T2.out.1 T2.out.2 T3.out.1 T3.out.2 T4.out.1 T4.out.2 T5.out.1 T5.out.2 T6.out.1 T6.out.2 T7.out.1 T7.out.2 T8.out.1 T8.out.2 T9.out.1 T9.out.2 s9)

theorem half_step (d r x s : Int) (hd : 0 ≤ d ∧ d ≤ 65535) (hr : 0 ≤ r ∧ r ≤ 1) (hx : r * 65536 + d = x) (hs : x % 2 = s) :
    (0 ≤ x ∧ x ≤ 131071) ∧ (0 ≤ s ∧ s ≤ 1) ∧ 2 * (x / 2) = r * 65536 + d - s ∧ 0 ≤ x / 2 ∧ x / 2 ≤ 65535 := by omega

theorem half_fin (a a0 a1 a2 a3 a4 a5 a6 a7 a8 a9 y0 y1 y2 y3 y4 y5 y6 y7 y8 y9 r0 r1 r2 r3 r4 r5 r6 r7 r8 r9 : Int)
    (ha : a0 + a1 * 65536 + a2 * 4294967296 + a3 * 281474976710656 + a4 * 18446744073709551616 + a5 * 1208925819614629174706176 + a6 * 79228162514264337593543950336 + a7 * 5192296858534827628530496329220096 + a8 * 340282366920938463463374607431768211456 + a9 * 22300745198530623141535718272648361505980416 = a)
    (e0 : 2 * y0 = r1 * 65536 + a0 - r0) (c0 : 0 ≤ y0 ∧ y0 ≤ 65535) (e1 : 2 * y1 = r2 * 65536 + a1 - r1) (c1 : 0 ≤ y1 ∧ y1 ≤ 65535) (e2 : 2 * y2 = r3 * 65536 + a2 - r2) (c2 : 0 ≤ y2 ∧ y2 ≤ 65535) (e3 : 2 * y3 = r4 * 65536 + a3 - r3) (c3 : 0 ≤ y3 ∧ y3 ≤ 65535) (e4 : 2 * y4 = r5 * 65536 + a4 - r4) (c4 : 0 ≤ y4 ∧ y4 ≤ 65535) (e5 : 2 * y5 = r6 * 65536 + a5 - r5) (c5 : 0 ≤ y5 ∧ y5 ≤ 65535) (e6 : 2 * y6 = r7 * 65536 + a6 - r6) (c6 : 0 ≤ y6 ∧ y6 ≤ 65535) (e7 : 2 * y7 = r8 * 65536 + a7 - r7) (c7 : 0 ≤ y7 ∧ y7 ≤ 65535) (e8 : 2 * y8 = r9 * 65536 + a8 - r8) (c8 : 0 ≤ y8 ∧ y8 ≤ 65535) (e9 : 2 * y9 = 0 * 65536 + a9 - r9) (c9 : 0 ≤ y9 ∧ y9 ≤ 65535) (hr : 0 ≤ r0 ∧ r0 ≤ 1) :
    y0 = dgt (a / 2) 0 ∧ y1 = dgt (a / 2) 1 ∧ y2 = dgt (a / 2) 2 ∧ y3 = dgt (a / 2) 3 ∧ y4 = dgt (a / 2) 4 ∧ y5 = dgt (a / 2) 5 ∧ y6 = dgt (a / 2) 6 ∧ y7 = dgt (a / 2) 7 ∧ y8 = dgt (a / 2) 8 ∧ y9 = dgt (a / 2) 9 := by
  refine dgt_uniq _ _ _ _ _ _ _ _ _ _ _ ?_ c0 c1 c2 c3 c4 c5 c6 c7 c8 c9
  omega

set_option maxHeartbeats 4000000 in
theorem half_any (a : Int) (w : World) (a0 : 0 ≤ a) (a1 : a < 1461501637330902918203684832716283019655932542976) :
    Calls Try.prog 59 #[D a] w fun e w' => e = .returned (D (a / 2)) ∧ ∃ X Y, w' = (w.alloc X).alloc Y := by
  have HA := Lib.hid (sum_dgt a a0 a1)
  clear a0 a1
  have s : (0 : Int) ≤ 0 ∧ (0 : Int) ≤ 1 := by omega
  have p9 := dgt_bd a 9
  obtain ⟨x9, h9⟩ : ∃ x, 0 * 65536 + dgt a 9 = x := ⟨_, rfl⟩
  obtain ⟨r9, k9⟩ : ∃ r, x9 % 2 = r := ⟨_, rfl⟩
  have t9 := half_step _ _ _ _ p9 s h9 k9
  obtain ⟨c9, s9, t9⟩ := t9
  rw [Int.zero_mul, Int.zero_add] at h9
  have H9 := Lib.hid h9
  have K9 := Lib.hid k9
  have T9 := Lib.hid t9
  clear h9 k9 t9
  have p8 := dgt_bd a 8
  obtain ⟨x8, h8⟩ : ∃ x, r9 * 65536 + dgt a 8 = x := ⟨_, rfl⟩
  obtain ⟨r8, k8⟩ : ∃ r, x8 % 2 = r := ⟨_, rfl⟩
  have t8 := half_step _ _ _ _ p8 s9 h8 k8
  obtain ⟨c8, s8, t8⟩ := t8
  have H8 := Lib.hid h8
  have K8 := Lib.hid k8
  have T8 := Lib.hid t8
  clear h8 k8 t8
  have p7 := dgt_bd a 7
  obtain ⟨x7, h7⟩ : ∃ x, r8 * 65536 + dgt a 7 = x := ⟨_, rfl⟩
  obtain ⟨r7, k7⟩ : ∃ r, x7 % 2 = r := ⟨_, rfl⟩
  have t7 := half_step _ _ _ _ p7 s8 h7 k7
  obtain ⟨c7, s7, t7⟩ := t7
  have H7 := Lib.hid h7
  have K7 := Lib.hid k7
  have T7 := Lib.hid t7
  clear h7 k7 t7
  have p6 := dgt_bd a 6
  obtain ⟨x6, h6⟩ : ∃ x, r7 * 65536 + dgt a 6 = x := ⟨_, rfl⟩
  obtain ⟨r6, k6⟩ : ∃ r, x6 % 2 = r := ⟨_, rfl⟩
  have t6 := half_step _ _ _ _ p6 s7 h6 k6
  obtain ⟨c6, s6, t6⟩ := t6
  have H6 := Lib.hid h6
  have K6 := Lib.hid k6
  have T6 := Lib.hid t6
  clear h6 k6 t6
  have p5 := dgt_bd a 5
  obtain ⟨x5, h5⟩ : ∃ x, r6 * 65536 + dgt a 5 = x := ⟨_, rfl⟩
  obtain ⟨r5, k5⟩ : ∃ r, x5 % 2 = r := ⟨_, rfl⟩
  have t5 := half_step _ _ _ _ p5 s6 h5 k5
  obtain ⟨c5, s5, t5⟩ := t5
  have H5 := Lib.hid h5
  have K5 := Lib.hid k5
  have T5 := Lib.hid t5
  clear h5 k5 t5
  have p4 := dgt_bd a 4
  obtain ⟨x4, h4⟩ : ∃ x, r5 * 65536 + dgt a 4 = x := ⟨_, rfl⟩
  obtain ⟨r4, k4⟩ : ∃ r, x4 % 2 = r := ⟨_, rfl⟩
  have t4 := half_step _ _ _ _ p4 s5 h4 k4
  obtain ⟨c4, s4, t4⟩ := t4
  have H4 := Lib.hid h4
  have K4 := Lib.hid k4
  have T4 := Lib.hid t4
  clear h4 k4 t4
  have p3 := dgt_bd a 3
  obtain ⟨x3, h3⟩ : ∃ x, r4 * 65536 + dgt a 3 = x := ⟨_, rfl⟩
  obtain ⟨r3, k3⟩ : ∃ r, x3 % 2 = r := ⟨_, rfl⟩
  have t3 := half_step _ _ _ _ p3 s4 h3 k3
  obtain ⟨c3, s3, t3⟩ := t3
  have H3 := Lib.hid h3
  have K3 := Lib.hid k3
  have T3 := Lib.hid t3
  clear h3 k3 t3
  have p2 := dgt_bd a 2
  obtain ⟨x2, h2⟩ : ∃ x, r3 * 65536 + dgt a 2 = x := ⟨_, rfl⟩
  obtain ⟨r2, k2⟩ : ∃ r, x2 % 2 = r := ⟨_, rfl⟩
  have t2 := half_step _ _ _ _ p2 s3 h2 k2
  obtain ⟨c2, s2, t2⟩ := t2
  have H2 := Lib.hid h2
  have K2 := Lib.hid k2
  have T2 := Lib.hid t2
  clear h2 k2 t2
  have p1 := dgt_bd a 1
  obtain ⟨x1, h1⟩ : ∃ x, r2 * 65536 + dgt a 1 = x := ⟨_, rfl⟩
  obtain ⟨r1, k1⟩ : ∃ r, x1 % 2 = r := ⟨_, rfl⟩
  have t1 := half_step _ _ _ _ p1 s2 h1 k1
  obtain ⟨c1, s1, t1⟩ := t1
  have H1 := Lib.hid h1
  have K1 := Lib.hid k1
  have T1 := Lib.hid t1
  clear h1 k1 t1
  have p0 := dgt_bd a 0
  obtain ⟨x0, h0⟩ : ∃ x, r1 * 65536 + dgt a 0 = x := ⟨_, rfl⟩
  obtain ⟨r0, k0⟩ : ∃ r, x0 % 2 = r := ⟨_, rfl⟩
  have t0 := half_step _ _ _ _ p0 s1 h0 k0
  obtain ⟨c0, s0, t0⟩ := t0
  have H0 := Lib.hid h0
  have K0 := Lib.hid k0
  have T0 := Lib.hid t0
  clear h0 k0 t0
  go_enter Try.func59, Try.ntmps59
  go_wp2
  refine wp_loop_rounds 11 ?_
  have h9 := H9.out; have k9 := K9.out; rw [rounds_succ]; go_wp2; clear h9 k9
  have h8 := H8.out; have k8 := K8.out; rw [rounds_succ]; go_wp2; clear h8 k8
  have h7 := H7.out; have k7 := K7.out; rw [rounds_succ]; go_wp2; clear h7 k7
  have h6 := H6.out; have k6 := K6.out; rw [rounds_succ]; go_wp2; clear h6 k6
  have h5 := H5.out; have k5 := K5.out; rw [rounds_succ]; go_wp2; clear h5 k5
  have h4 := H4.out; have k4 := K4.out; rw [rounds_succ]; go_wp2; clear h4 k4
  have h3 := H3.out; have k3 := K3.out; rw [rounds_succ]; go_wp2; clear h3 k3
  have h2 := H2.out; have k2 := K2.out; rw [rounds_succ]; go_wp2; clear h2 k2
  have h1 := H1.out; have k1 := K1.out; rw [rounds_succ]; go_wp2; clear h1 k1
  have h0 := H0.out; have k0 := K0.out; rw [rounds_succ]; go_wp2; clear h0 k0
  rw [rounds_succ]
  go_wp2
  have h9 := H9.out; have k9 := K9.out; subst h9; subst k9
  have h8 := H8.out; have k8 := K8.out; subst h8; subst k8
  have h7 := H7.out; have k7 := K7.out; subst h7; subst k7
  have h6 := H6.out; have k6 := K6.out; subst h6; subst k6
  have h5 := H5.out; have k5 := K5.out; subst h5; subst k5
  have h4 := H4.out; have k4 := K4.out; subst h4; subst k4
  have h3 := H3.out; have k3 := K3.out; subst h3; subst k3
  have h2 := H2.out; have k2 := K2.out; subst h2; subst k2
  have h1 := H1.out; have k1 := K1.out; subst h1; subst k1
  have h0 := H0.out; have k0 := K0.out; subst h0; subst k0
  refine bodyPost_ret (v := .agg #[.int .u64 (((((((((((dgt a 9) % 2 * 65536 + dgt a 8) % 2 * 65536 + dgt a 7) % 2 * 65536 + dgt a 6) % 2 * 65536 + dgt a 5) % 2 * 65536 + dgt a 4) % 2 * 65536 + dgt a 3) % 2 * 65536 + dgt a 2) % 2 * 65536 + dgt a 1) % 2 * 65536 + dgt a 0) / 2), .int .u64 ((((((((((dgt a 9) % 2 * 65536 + dgt a 8) % 2 * 65536 + dgt a 7) % 2 * 65536 + dgt a 6) % 2 * 65536 + dgt a 5) % 2 * 65536 + dgt a 4) % 2 * 65536 + dgt a 3) % 2 * 65536 + dgt a 2) % 2 * 65536 + dgt a 1) / 2), .int .u64 (((((((((dgt a 9) % 2 * 65536 + dgt a 8) % 2 * 65536 + dgt a 7) % 2 * 65536 + dgt a 6) % 2 * 65536 + dgt a 5) % 2 * 65536 + dgt a 4) % 2 * 65536 + dgt a 3) % 2 * 65536 + dgt a 2) / 2), .int .u64 ((((((((dgt a 9) % 2 * 65536 + dgt a 8) % 2 * 65536 + dgt a 7) % 2 * 65536 + dgt a 6) % 2 * 65536 + dgt a 5) % 2 * 65536 + dgt a 4) % 2 * 65536 + dgt a 3) / 2), .int .u64 (((((((dgt a 9) % 2 * 65536 + dgt a 8) % 2 * 65536 + dgt a 7) % 2 * 65536 + dgt a 6) % 2 * 65536 + dgt a 5) % 2 * 65536 + dgt a 4) / 2), .int .u64 ((((((dgt a 9) % 2 * 65536 + dgt a 8) % 2 * 65536 + dgt a 7) % 2 * 65536 + dgt a 6) % 2 * 65536 + dgt a 5) / 2), .int .u64 (((((dgt a 9) % 2 * 65536 + dgt a 8) % 2 * 65536 + dgt a 7) % 2 * 65536 + dgt a 6) / 2), .int .u64 ((((dgt a 9) % 2 * 65536 + dgt a 8) % 2 * 65536 + dgt a 7) / 2), .int .u64 (((dgt a 9) % 2 * 65536 + dgt a 8) / 2), .int .u64 ((dgt a 9) / 2)]) (by simp [results, Try.results59, go_sem]) rfl ⟨?_, _, _, rfl⟩
  exact ret_dig (half_fin a _ _ _ _ _ _ _ _ _ _ _ _ _ _ _ _ _ _ _ _ _ _ _ _ _ _ _ _ _ _ HA.out T0.out.1 T0.out.2 T1.out.1 T1.out.2 T2.out.1 T2.out.2 T3.out.1 T3.out.2 T4.out.1 T4.out.2 T5.out.1 T5.out.2 T6.out.1 T6.out.2 T7.out.1 T7.out.2 T8.out.1 T8.out.2 T9.out.1 T9.out.2 s0)

theorem val_twice (a : Int) (a0 : 0 ≤ a) (a1 : a < 1461501637330902918203684832716283019655932542976) : val (fun i => 2 * dgt a i) = 2 * a := by
  have := sum_dgt a a0 a1
  simp only [val]
  omega

set_option maxHeartbeats 4000000 in
theorem shifted_any (a : Int) (w : World) (a0 : 0 ≤ a) (a1 : 2 * a < 1461501637330902918203684832716283019655932542976) :
    Calls Try.prog 49 #[D a] w fun e w' => e = .returned (D (2 * a)) ∧ ∃ X Y Z U n, w' = ((((w.alloc X).alloc Y).alloc Z).alloc U).drewN n := by
  have p0 := dgt_bd a 0
  have p1 := dgt_bd a 1
  have p2 := dgt_bd a 2
  have p3 := dgt_bd a 3
  have p4 := dgt_bd a 4
  have p5 := dgt_bd a 5
  have p6 := dgt_bd a 6
  have p7 := dgt_bd a 7
  have p8 := dgt_bd a 8
  have p9 := dgt_bd a 9
  have HV := Lib.hid (val_twice a a0 (by omega))
  go_enter Try.func49, Try.ntmps49
  go_wp2
  refine wp_loop_rounds 11 ?_
  iterate 10 (rw [rounds_succ]; go_wp2)
  rw [rounds_succ]
  go_wp2_with fail
  refine (carry_any (fun i => 2 * dgt a i) _ (fun i _ => by have := dgt_bd a i; show 0 ≤ 2 * dgt a i ∧ 2 * dgt a i ≤ 4611686018427387904; omega) (by rw [HV.out]; exact a1)).mono ?_
  rintro e w1 ⟨rfl, X, Y, n, rfl⟩
  rw [HV.out]
  go_wp2
  exact bodyPost_ret (v := D (2 * a)) (by simp [results, Try.results49, go_sem]) rfl ⟨rfl, _, _, _, _, n, rfl⟩

end Go.Proofs.Ytaebbfaheaghfaa
