/- Plain arithmetic: numbers below 2^160 as ten digits of 16 bits. No program in it. The contracts of falseworkref01, the document's own numbers of any size: digits of 16 bits. First part: carry, less, minus, half, shifted. -/
import Derived.Test.YtaebbfaheaghfaaWideMath
import Derived.Test.YtaebbfaheaghfaaWide2
import Derived.Handy

namespace Go.Proofs.Ytaebbfaheaghfaa

/-- the i-th digit of n -/
def dgt (n : Int) (i : Nat) : Int := n / 65536 ^ i % 65536
/-- what ten digits, of whatever size, are together -/
def val (f : Nat → Int) : Int := f 0 + f 1 * 65536 + f 2 * 4294967296 + f 3 * 281474976710656 + f 4 * 18446744073709551616 + f 5 * 1208925819614629174706176 + f 6 * 79228162514264337593543950336 + f 7 * 5192296858534827628530496329220096 + f 8 * 340282366920938463463374607431768211456 + f 9 * 22300745198530623141535718272648361505980416

theorem dgt0 (n : Int) : dgt n 0 = n / 1 % 65536 := by unfold dgt; rfl
theorem dgt1 (n : Int) : dgt n 1 = n / 65536 % 65536 := by unfold dgt; rfl
theorem dgt2 (n : Int) : dgt n 2 = n / 4294967296 % 65536 := by unfold dgt; rfl
theorem dgt3 (n : Int) : dgt n 3 = n / 281474976710656 % 65536 := by unfold dgt; rfl
theorem dgt4 (n : Int) : dgt n 4 = n / 18446744073709551616 % 65536 := by unfold dgt; rfl
theorem dgt5 (n : Int) : dgt n 5 = n / 1208925819614629174706176 % 65536 := by unfold dgt; rfl
theorem dgt6 (n : Int) : dgt n 6 = n / 79228162514264337593543950336 % 65536 := by unfold dgt; rfl
theorem dgt7 (n : Int) : dgt n 7 = n / 5192296858534827628530496329220096 % 65536 := by unfold dgt; rfl
theorem dgt8 (n : Int) : dgt n 8 = n / 340282366920938463463374607431768211456 % 65536 := by unfold dgt; rfl
theorem dgt9 (n : Int) : dgt n 9 = n / 22300745198530623141535718272648361505980416 % 65536 := by unfold dgt; rfl
theorem dgt_bd (n : Int) (i : Nat) : 0 ≤ dgt n i ∧ dgt n i ≤ 65535 := by unfold dgt; omega

/-- digits below 65536 are those of what they are together -/
theorem dgt_uniq (n x0 x1 x2 x3 x4 x5 x6 x7 x8 x9 : Int) (h : x0 + x1 * 65536 + x2 * 4294967296 + x3 * 281474976710656 + x4 * 18446744073709551616 + x5 * 1208925819614629174706176 + x6 * 79228162514264337593543950336 + x7 * 5192296858534827628530496329220096 + x8 * 340282366920938463463374607431768211456 + x9 * 22300745198530623141535718272648361505980416 = n) (a0 : 0 ≤ x0 ∧ x0 ≤ 65535) (a1 : 0 ≤ x1 ∧ x1 ≤ 65535) (a2 : 0 ≤ x2 ∧ x2 ≤ 65535) (a3 : 0 ≤ x3 ∧ x3 ≤ 65535) (a4 : 0 ≤ x4 ∧ x4 ≤ 65535) (a5 : 0 ≤ x5 ∧ x5 ≤ 65535) (a6 : 0 ≤ x6 ∧ x6 ≤ 65535) (a7 : 0 ≤ x7 ∧ x7 ≤ 65535) (a8 : 0 ≤ x8 ∧ x8 ≤ 65535) (a9 : 0 ≤ x9 ∧ x9 ≤ 65535) :
    x0 = dgt n 0 ∧ x1 = dgt n 1 ∧ x2 = dgt n 2 ∧ x3 = dgt n 3 ∧ x4 = dgt n 4 ∧ x5 = dgt n 5 ∧ x6 = dgt n 6 ∧ x7 = dgt n 7 ∧ x8 = dgt n 8 ∧ x9 = dgt n 9 := by
  simp only [dgt0, dgt1, dgt2, dgt3, dgt4, dgt5, dgt6, dgt7, dgt8, dgt9]
  subst h
  refine ⟨?_, ?_, ?_, ?_, ?_, ?_, ?_, ?_, ?_, ?_⟩ <;> omega

theorem dgt_val (n : Int) (h0 : 0 ≤ n) (h1 : n < 1461501637330902918203684832716283019655932542976) : val (dgt n) = n := by
  unfold val
  simp only [dgt0, dgt1, dgt2, dgt3, dgt4, dgt5, dgt6, dgt7, dgt8, dgt9]
  omega

end Go.Proofs.Ytaebbfaheaghfaa

namespace Go.Proofs.Ytaebbfaheaghfaa
open Go.RowKit

/-- ten digits in memory -/
abbrev dig (f : Nat → Int) : Value := .agg #[.int .u64 (f 0), .int .u64 (f 1), .int .u64 (f 2), .int .u64 (f 3), .int .u64 (f 4), .int .u64 (f 5), .int .u64 (f 6), .int .u64 (f 7), .int .u64 (f 8), .int .u64 (f 9)]
/-- draws stand outermost -/
@[go_sem] theorem alloc_drewN (w : World) (n : Nat) (o : Obj) : (w.drewN n).alloc o = (w.alloc o).drewN n := rfl
@[go_sem] theorem setCell_drewN (w : World) (n : Nat) (a : Addr) (v : Value) : (w.drewN n).setCell a v = (w.setCell a v).drewN n := by
  unfold World.setCell World.drewN
  rfl

/-- the digits of n -/
abbrev D (n : Int) : Value := dig (dgt n)

theorem ret_dig {x0 x1 x2 x3 x4 x5 x6 x7 x8 x9 : Int} {n : Int} (h : x0 = dgt n 0 ∧ x1 = dgt n 1 ∧ x2 = dgt n 2 ∧ x3 = dgt n 3 ∧ x4 = dgt n 4 ∧ x5 = dgt n 5 ∧ x6 = dgt n 6 ∧ x7 = dgt n 7 ∧ x8 = dgt n 8 ∧ x9 = dgt n 9) : Ending.returned (.agg #[.int .u64 (x0), .int .u64 (x1), .int .u64 (x2), .int .u64 (x3), .int .u64 (x4), .int .u64 (x5), .int .u64 (x6), .int .u64 (x7), .int .u64 (x8), .int .u64 (x9)]) = .returned (D n) := by
  obtain ⟨rfl, rfl, rfl, rfl, rfl, rfl, rfl, rfl, rfl, rfl⟩ := h
  rfl

set_option maxHeartbeats 4000000 in
theorem carry_any (f : Nat → Int) (w : World) (h : ∀ i, i < 10 → 0 ≤ f i ∧ f i ≤ 4611686018427387904) (hv : val f < 1461501637330902918203684832716283019655932542976) :
    Calls Try.prog 34 #[dig f] w fun e w' => e = .returned (D (val f)) ∧ ∃ X Y n, w' = ((w.alloc X).alloc Y).drewN n := by
  have b0 := h 0 (by omega)
  have b1 := h 1 (by omega)
  have b2 := h 2 (by omega)
  have b3 := h 3 (by omega)
  have b4 := h 4 (by omega)
  have b5 := h 5 (by omega)
  have b6 := h 6 (by omega)
  have b7 := h 7 (by omega)
  have b8 := h 8 (by omega)
  have b9 := h 9 (by omega)
  clear h
  have HV := Lib.hid hv
  clear hv
  obtain ⟨e1, h1⟩ : ∃ e, f 1 + f 0 / 65536 = e := ⟨_, rfl⟩
  have c1 : 0 ≤ e1 ∧ e1 ≤ 9223372036854775808 := by omega
  obtain ⟨e2, h2⟩ : ∃ e, f 2 + e1 / 65536 = e := ⟨_, rfl⟩
  have c2 : 0 ≤ e2 ∧ e2 ≤ 9223372036854775808 := by omega
  obtain ⟨e3, h3⟩ : ∃ e, f 3 + e2 / 65536 = e := ⟨_, rfl⟩
  have c3 : 0 ≤ e3 ∧ e3 ≤ 9223372036854775808 := by omega
  obtain ⟨e4, h4⟩ : ∃ e, f 4 + e3 / 65536 = e := ⟨_, rfl⟩
  have c4 : 0 ≤ e4 ∧ e4 ≤ 9223372036854775808 := by omega
  obtain ⟨e5, h5⟩ : ∃ e, f 5 + e4 / 65536 = e := ⟨_, rfl⟩
  have c5 : 0 ≤ e5 ∧ e5 ≤ 9223372036854775808 := by omega
  obtain ⟨e6, h6⟩ : ∃ e, f 6 + e5 / 65536 = e := ⟨_, rfl⟩
  have c6 : 0 ≤ e6 ∧ e6 ≤ 9223372036854775808 := by omega
  obtain ⟨e7, h7⟩ : ∃ e, f 7 + e6 / 65536 = e := ⟨_, rfl⟩
  have c7 : 0 ≤ e7 ∧ e7 ≤ 9223372036854775808 := by omega
  obtain ⟨e8, h8⟩ : ∃ e, f 8 + e7 / 65536 = e := ⟨_, rfl⟩
  have c8 : 0 ≤ e8 ∧ e8 ≤ 9223372036854775808 := by omega
  obtain ⟨e9, h9⟩ : ∃ e, f 9 + e8 / 65536 = e := ⟨_, rfl⟩
  have c9 : 0 ≤ e9 ∧ e9 ≤ 9223372036854775808 := by omega
  go_enter Try.func34, Try.ntmps34
  go_wp2
  refine wp_loop_rounds 10 ?_
  iterate 9 (rw [rounds_succ]; go_wp2; go_region; go_wp2)
  rw [rounds_succ]
  go_wp2
  refine bodyPost_ret (v := .agg #[.int .u64 (f 0 % 65536), .int .u64 (e1 % 65536), .int .u64 (e2 % 65536), .int .u64 (e3 % 65536), .int .u64 (e4 % 65536), .int .u64 (e5 % 65536), .int .u64 (e6 % 65536), .int .u64 (e7 % 65536), .int .u64 (e8 % 65536), .int .u64 (e9)]) (by simp [results, Try.results34, go_sem]) rfl ⟨?_, _, _, 9, rfl⟩
  have hv := HV.out
  unfold val at hv ⊢
  refine ret_dig (dgt_uniq _ _ _ _ _ _ _ _ _ _ _ ?_ ?_ ?_ ?_ ?_ ?_ ?_ ?_ ?_ ?_ ?_) <;> omega

/-- the upper digits are the same -/
def SameUp (a b : Int) (q : Int) : Prop := a / q = b / q
set_option maxHeartbeats 4000000 in
theorem less_any (a b : Int) (w : World) (a0 : 0 ≤ a) (a1 : a < 1461501637330902918203684832716283019655932542976) (b0 : 0 ≤ b) (b1 : b < 1461501637330902918203684832716283019655932542976) :
    Calls Try.prog 35 #[D a, D b] w fun e w' => e = .returned (.int .i64 (cmpI a b)) ∧ ∃ X Y n, w' = ((w.alloc X).alloc Y).drewN n := by
  have u10 : Hid (SameUp a b 1461501637330902918203684832716283019655932542976) := by unfold SameUp; show a / 1461501637330902918203684832716283019655932542976 = b / 1461501637330902918203684832716283019655932542976; omega
  go_enter Try.func35, Try.ntmps35
  go_wp2
  refine wp_loop_rounds 11 ?_
  rw [rounds_succ]
  by_cases l9 : dgt a 9 < dgt b 9
  · have k : Hid (cmpI a b = -1) := by have h := u10.out; unfold SameUp at h; simp only [dgt9] at l9; unfold cmpI; rw [if_pos (by omega)]; rfl
    have d1 : decide (dgt a 9 < dgt b 9) = true := by simpa using l9
    go_wp2; go_quiet (fail); go_wp2; go_ret; refine ⟨ret_int k.out.symm, ?_⟩; (try simp only [World.drewN_drewN]); exact ⟨_, _, _, rfl⟩
  have n9 : decide (dgt a 9 < dgt b 9) = false := by simpa using l9
  by_cases m9 : dgt b 9 < dgt a 9
  · have k : Hid (cmpI a b = 1) := by have h := u10.out; unfold SameUp at h; simp only [dgt9] at l9 m9; unfold cmpI; rw [if_neg (by omega), if_pos (by omega)]; rfl
    have d1 : decide (dgt b 9 < dgt a 9) = true := by simpa using m9
    go_wp2; go_quiet (fail); go_wp2; go_quiet (fail); go_wp2; go_ret; refine ⟨ret_int k.out.symm, ?_⟩; (try simp only [World.drewN_drewN]); exact ⟨_, _, _, rfl⟩
  have p9 : decide (dgt b 9 < dgt a 9) = false := by simpa using m9
  have u9 : Hid (SameUp a b 22300745198530623141535718272648361505980416) := by have h := u10.out; unfold SameUp at h; simp only [dgt9] at l9 m9; show a / 22300745198530623141535718272648361505980416 = b / 22300745198530623141535718272648361505980416; omega
  clear u10 l9 m9
  go_wp2; go_quiet (fail); go_wp2; go_quiet (fail); go_wp2
  clear n9 p9
  rw [rounds_succ]
  by_cases l8 : dgt a 8 < dgt b 8
  · have k : Hid (cmpI a b = -1) := by have h := u9.out; unfold SameUp at h; simp only [dgt8] at l8; unfold cmpI; rw [if_pos (by omega)]; rfl
    have d1 : decide (dgt a 8 < dgt b 8) = true := by simpa using l8
    go_wp2; go_quiet (fail); go_wp2; go_ret; refine ⟨ret_int k.out.symm, ?_⟩; (try simp only [World.drewN_drewN]); exact ⟨_, _, _, rfl⟩
  have n8 : decide (dgt a 8 < dgt b 8) = false := by simpa using l8
  by_cases m8 : dgt b 8 < dgt a 8
  · have k : Hid (cmpI a b = 1) := by have h := u9.out; unfold SameUp at h; simp only [dgt8] at l8 m8; unfold cmpI; rw [if_neg (by omega), if_pos (by omega)]; rfl
    have d1 : decide (dgt b 8 < dgt a 8) = true := by simpa using m8
    go_wp2; go_quiet (fail); go_wp2; go_quiet (fail); go_wp2; go_ret; refine ⟨ret_int k.out.symm, ?_⟩; (try simp only [World.drewN_drewN]); exact ⟨_, _, _, rfl⟩
  have p8 : decide (dgt b 8 < dgt a 8) = false := by simpa using m8
  have u8 : Hid (SameUp a b 340282366920938463463374607431768211456) := by have h := u9.out; unfold SameUp at h; simp only [dgt8] at l8 m8; show a / 340282366920938463463374607431768211456 = b / 340282366920938463463374607431768211456; omega
  clear u9 l8 m8
  go_wp2; go_quiet (fail); go_wp2; go_quiet (fail); go_wp2
  clear n8 p8
  rw [rounds_succ]
  by_cases l7 : dgt a 7 < dgt b 7
  · have k : Hid (cmpI a b = -1) := by have h := u8.out; unfold SameUp at h; simp only [dgt7] at l7; unfold cmpI; rw [if_pos (by omega)]; rfl
    have d1 : decide (dgt a 7 < dgt b 7) = true := by simpa using l7
    go_wp2; go_quiet (fail); go_wp2; go_ret; refine ⟨ret_int k.out.symm, ?_⟩; (try simp only [World.drewN_drewN]); exact ⟨_, _, _, rfl⟩
  have n7 : decide (dgt a 7 < dgt b 7) = false := by simpa using l7
  by_cases m7 : dgt b 7 < dgt a 7
  · have k : Hid (cmpI a b = 1) := by have h := u8.out; unfold SameUp at h; simp only [dgt7] at l7 m7; unfold cmpI; rw [if_neg (by omega), if_pos (by omega)]; rfl
    have d1 : decide (dgt b 7 < dgt a 7) = true := by simpa using m7
    go_wp2; go_quiet (fail); go_wp2; go_quiet (fail); go_wp2; go_ret; refine ⟨ret_int k.out.symm, ?_⟩; (try simp only [World.drewN_drewN]); exact ⟨_, _, _, rfl⟩
  have p7 : decide (dgt b 7 < dgt a 7) = false := by simpa using m7
  have u7 : Hid (SameUp a b 5192296858534827628530496329220096) := by have h := u8.out; unfold SameUp at h; simp only [dgt7] at l7 m7; show a / 5192296858534827628530496329220096 = b / 5192296858534827628530496329220096; omega
  clear u8 l7 m7
  go_wp2; go_quiet (fail); go_wp2; go_quiet (fail); go_wp2
  clear n7 p7
  rw [rounds_succ]
  by_cases l6 : dgt a 6 < dgt b 6
  · have k : Hid (cmpI a b = -1) := by have h := u7.out; unfold SameUp at h; simp only [dgt6] at l6; unfold cmpI; rw [if_pos (by omega)]; rfl
    have d1 : decide (dgt a 6 < dgt b 6) = true := by simpa using l6
    go_wp2; go_quiet (fail); go_wp2; go_ret; refine ⟨ret_int k.out.symm, ?_⟩; (try simp only [World.drewN_drewN]); exact ⟨_, _, _, rfl⟩
  have n6 : decide (dgt a 6 < dgt b 6) = false := by simpa using l6
  by_cases m6 : dgt b 6 < dgt a 6
  · have k : Hid (cmpI a b = 1) := by have h := u7.out; unfold SameUp at h; simp only [dgt6] at l6 m6; unfold cmpI; rw [if_neg (by omega), if_pos (by omega)]; rfl
    have d1 : decide (dgt b 6 < dgt a 6) = true := by simpa using m6
    go_wp2; go_quiet (fail); go_wp2; go_quiet (fail); go_wp2; go_ret; refine ⟨ret_int k.out.symm, ?_⟩; (try simp only [World.drewN_drewN]); exact ⟨_, _, _, rfl⟩
  have p6 : decide (dgt b 6 < dgt a 6) = false := by simpa using m6
  have u6 : Hid (SameUp a b 79228162514264337593543950336) := by have h := u7.out; unfold SameUp at h; simp only [dgt6] at l6 m6; show a / 79228162514264337593543950336 = b / 79228162514264337593543950336; omega
  clear u7 l6 m6
  go_wp2; go_quiet (fail); go_wp2; go_quiet (fail); go_wp2
  clear n6 p6
  rw [rounds_succ]
  by_cases l5 : dgt a 5 < dgt b 5
  · have k : Hid (cmpI a b = -1) := by have h := u6.out; unfold SameUp at h; simp only [dgt5] at l5; unfold cmpI; rw [if_pos (by omega)]; rfl
    have d1 : decide (dgt a 5 < dgt b 5) = true := by simpa using l5
    go_wp2; go_quiet (fail); go_wp2; go_ret; refine ⟨ret_int k.out.symm, ?_⟩; (try simp only [World.drewN_drewN]); exact ⟨_, _, _, rfl⟩
  have n5 : decide (dgt a 5 < dgt b 5) = false := by simpa using l5
  by_cases m5 : dgt b 5 < dgt a 5
  · have k : Hid (cmpI a b = 1) := by have h := u6.out; unfold SameUp at h; simp only [dgt5] at l5 m5; unfold cmpI; rw [if_neg (by omega), if_pos (by omega)]; rfl
    have d1 : decide (dgt b 5 < dgt a 5) = true := by simpa using m5
    go_wp2; go_quiet (fail); go_wp2; go_quiet (fail); go_wp2; go_ret; refine ⟨ret_int k.out.symm, ?_⟩; (try simp only [World.drewN_drewN]); exact ⟨_, _, _, rfl⟩
  have p5 : decide (dgt b 5 < dgt a 5) = false := by simpa using m5
  have u5 : Hid (SameUp a b 1208925819614629174706176) := by have h := u6.out; unfold SameUp at h; simp only [dgt5] at l5 m5; show a / 1208925819614629174706176 = b / 1208925819614629174706176; omega
  clear u6 l5 m5
  go_wp2; go_quiet (fail); go_wp2; go_quiet (fail); go_wp2
  clear n5 p5
  rw [rounds_succ]
  by_cases l4 : dgt a 4 < dgt b 4
  · have k : Hid (cmpI a b = -1) := by have h := u5.out; unfold SameUp at h; simp only [dgt4] at l4; unfold cmpI; rw [if_pos (by omega)]; rfl
    have d1 : decide (dgt a 4 < dgt b 4) = true := by simpa using l4
    go_wp2; go_quiet (fail); go_wp2; go_ret; refine ⟨ret_int k.out.symm, ?_⟩; (try simp only [World.drewN_drewN]); exact ⟨_, _, _, rfl⟩
  have n4 : decide (dgt a 4 < dgt b 4) = false := by simpa using l4
  by_cases m4 : dgt b 4 < dgt a 4
  · have k : Hid (cmpI a b = 1) := by have h := u5.out; unfold SameUp at h; simp only [dgt4] at l4 m4; unfold cmpI; rw [if_neg (by omega), if_pos (by omega)]; rfl
    have d1 : decide (dgt b 4 < dgt a 4) = true := by simpa using m4
    go_wp2; go_quiet (fail); go_wp2; go_quiet (fail); go_wp2; go_ret; refine ⟨ret_int k.out.symm, ?_⟩; (try simp only [World.drewN_drewN]); exact ⟨_, _, _, rfl⟩
  have p4 : decide (dgt b 4 < dgt a 4) = false := by simpa using m4
  have u4 : Hid (SameUp a b 18446744073709551616) := by have h := u5.out; unfold SameUp at h; simp only [dgt4] at l4 m4; show a / 18446744073709551616 = b / 18446744073709551616; omega
  clear u5 l4 m4
  go_wp2; go_quiet (fail); go_wp2; go_quiet (fail); go_wp2
  clear n4 p4
  rw [rounds_succ]
  by_cases l3 : dgt a 3 < dgt b 3
  · have k : Hid (cmpI a b = -1) := by have h := u4.out; unfold SameUp at h; simp only [dgt3] at l3; unfold cmpI; rw [if_pos (by omega)]; rfl
    have d1 : decide (dgt a 3 < dgt b 3) = true := by simpa using l3
    go_wp2; go_quiet (fail); go_wp2; go_ret; refine ⟨ret_int k.out.symm, ?_⟩; (try simp only [World.drewN_drewN]); exact ⟨_, _, _, rfl⟩
  have n3 : decide (dgt a 3 < dgt b 3) = false := by simpa using l3
  by_cases m3 : dgt b 3 < dgt a 3
  · have k : Hid (cmpI a b = 1) := by have h := u4.out; unfold SameUp at h; simp only [dgt3] at l3 m3; unfold cmpI; rw [if_neg (by omega), if_pos (by omega)]; rfl
    have d1 : decide (dgt b 3 < dgt a 3) = true := by simpa using m3
    go_wp2; go_quiet (fail); go_wp2; go_quiet (fail); go_wp2; go_ret; refine ⟨ret_int k.out.symm, ?_⟩; (try simp only [World.drewN_drewN]); exact ⟨_, _, _, rfl⟩
  have p3 : decide (dgt b 3 < dgt a 3) = false := by simpa using m3
  have u3 : Hid (SameUp a b 281474976710656) := by have h := u4.out; unfold SameUp at h; simp only [dgt3] at l3 m3; show a / 281474976710656 = b / 281474976710656; omega
  clear u4 l3 m3
  go_wp2; go_quiet (fail); go_wp2; go_quiet (fail); go_wp2
  clear n3 p3
  rw [rounds_succ]
  by_cases l2 : dgt a 2 < dgt b 2
  · have k : Hid (cmpI a b = -1) := by have h := u3.out; unfold SameUp at h; simp only [dgt2] at l2; unfold cmpI; rw [if_pos (by omega)]; rfl
    have d1 : decide (dgt a 2 < dgt b 2) = true := by simpa using l2
    go_wp2; go_quiet (fail); go_wp2; go_ret; refine ⟨ret_int k.out.symm, ?_⟩; (try simp only [World.drewN_drewN]); exact ⟨_, _, _, rfl⟩
  have n2 : decide (dgt a 2 < dgt b 2) = false := by simpa using l2
  by_cases m2 : dgt b 2 < dgt a 2
  · have k : Hid (cmpI a b = 1) := by have h := u3.out; unfold SameUp at h; simp only [dgt2] at l2 m2; unfold cmpI; rw [if_neg (by omega), if_pos (by omega)]; rfl
    have d1 : decide (dgt b 2 < dgt a 2) = true := by simpa using m2
    go_wp2; go_quiet (fail); go_wp2; go_quiet (fail); go_wp2; go_ret; refine ⟨ret_int k.out.symm, ?_⟩; (try simp only [World.drewN_drewN]); exact ⟨_, _, _, rfl⟩
  have p2 : decide (dgt b 2 < dgt a 2) = false := by simpa using m2
  have u2 : Hid (SameUp a b 4294967296) := by have h := u3.out; unfold SameUp at h; simp only [dgt2] at l2 m2; show a / 4294967296 = b / 4294967296; omega
  clear u3 l2 m2
  go_wp2; go_quiet (fail); go_wp2; go_quiet (fail); go_wp2
  clear n2 p2
  rw [rounds_succ]
  by_cases l1 : dgt a 1 < dgt b 1
  · have k : Hid (cmpI a b = -1) := by have h := u2.out; unfold SameUp at h; simp only [dgt1] at l1; unfold cmpI; rw [if_pos (by omega)]; rfl
    have d1 : decide (dgt a 1 < dgt b 1) = true := by simpa using l1
    go_wp2; go_quiet (fail); go_wp2; go_ret; refine ⟨ret_int k.out.symm, ?_⟩; (try simp only [World.drewN_drewN]); exact ⟨_, _, _, rfl⟩
  have n1 : decide (dgt a 1 < dgt b 1) = false := by simpa using l1
  by_cases m1 : dgt b 1 < dgt a 1
  · have k : Hid (cmpI a b = 1) := by have h := u2.out; unfold SameUp at h; simp only [dgt1] at l1 m1; unfold cmpI; rw [if_neg (by omega), if_pos (by omega)]; rfl
    have d1 : decide (dgt b 1 < dgt a 1) = true := by simpa using m1
    go_wp2; go_quiet (fail); go_wp2; go_quiet (fail); go_wp2; go_ret; refine ⟨ret_int k.out.symm, ?_⟩; (try simp only [World.drewN_drewN]); exact ⟨_, _, _, rfl⟩
  have p1 : decide (dgt b 1 < dgt a 1) = false := by simpa using m1
  have u1 : Hid (SameUp a b 65536) := by have h := u2.out; unfold SameUp at h; simp only [dgt1] at l1 m1; show a / 65536 = b / 65536; omega
  clear u2 l1 m1
  go_wp2; go_quiet (fail); go_wp2; go_quiet (fail); go_wp2
  clear n1 p1
  rw [rounds_succ]
  by_cases l0 : dgt a 0 < dgt b 0
  · have k : Hid (cmpI a b = -1) := by have h := u1.out; unfold SameUp at h; simp only [dgt0] at l0; unfold cmpI; rw [if_pos (by omega)]; rfl
    have d1 : decide (dgt a 0 < dgt b 0) = true := by simpa using l0
    go_wp2; go_quiet (fail); go_wp2; go_ret; refine ⟨ret_int k.out.symm, ?_⟩; (try simp only [World.drewN_drewN]); exact ⟨_, _, _, rfl⟩
  have n0 : decide (dgt a 0 < dgt b 0) = false := by simpa using l0
  by_cases m0 : dgt b 0 < dgt a 0
  · have k : Hid (cmpI a b = 1) := by have h := u1.out; unfold SameUp at h; simp only [dgt0] at l0 m0; unfold cmpI; rw [if_neg (by omega), if_pos (by omega)]; rfl
    have d1 : decide (dgt b 0 < dgt a 0) = true := by simpa using m0
    go_wp2; go_quiet (fail); go_wp2; go_quiet (fail); go_wp2; go_ret; refine ⟨ret_int k.out.symm, ?_⟩; (try simp only [World.drewN_drewN]); exact ⟨_, _, _, rfl⟩
  have p0 : decide (dgt b 0 < dgt a 0) = false := by simpa using m0
  have u0 : Hid (SameUp a b 1) := by have h := u1.out; unfold SameUp at h; simp only [dgt0] at l0 m0; show a / 1 = b / 1; omega
  clear u1 l0 m0
  go_wp2; go_quiet (fail); go_wp2; go_quiet (fail); go_wp2
  clear n0 p0
  have k : Hid (cmpI a b = 0) := by have h := u0.out; unfold SameUp at h; unfold cmpI; rw [if_neg (by omega), if_neg (by omega)]; rfl
  rw [rounds_succ]
  go_wp2; go_ret; refine ⟨ret_int k.out.symm, ?_⟩; (try simp only [World.drewN_drewN]); exact ⟨_, _, _, rfl⟩

end Go.Proofs.Ytaebbfaheaghfaa
