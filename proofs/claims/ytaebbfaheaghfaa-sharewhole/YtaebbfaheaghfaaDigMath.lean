/- Plain arithmetic: numbers below 2^160 as ten digits of 16 bits. No program in it. -/
import Derived.Test.YtaebbfaheaghfaaWideMath
namespace Go.Proofs.Ytaebbfaheaghfaa

/-- the i-th digit of n -/
def dgt (n : Int) (i : Nat) : Int := n / 65536 ^ i % 65536
/-- what ten digits, of whatever size, are together -/
def val (f : Nat → Int) : Int := f 0 + f 1 * 65536 + f 2 * 4294967296 + f 3 * 281474976710656 + f 4 * 18446744073709551616 + f 5 * 1208925819614629174706176 + f 6 * 79228162514264337593543950336 + f 7 * 5192296858534827628530496329220096 + f 8 * 340282366920938463463374607431768211456 + f 9 * 22300745198530623141535718272648361505980416

theorem dgt0 (n : Int) : dgt n 0 = n / 1 % 65536 := by unfold dgt; rfl
theorem dgt1 (n : Int) : dgt n 1 = n / 65536 % 65536 := by unfold dgt; rfl
theorem dgt2 (n : Int) : dgt n 2 = n / 4294967296 % 65536 := by unfold dgt; rfl
theorem dgt3 (n : Int) : dgt n 3 = n / 281474976710656 % 65536 := by unfold dgt; rfl
theorem dgt4 (n : Int) : dgt n 4 = n / 18446744073709551616 % 65536 := by unfold dgt; rfl
theorem dgt5 (n : Int) : dgt n 5 = n / 1208925819614629174706176 % 65536 := by unfold dgt; rfl
theorem dgt6 (n : Int) : dgt n 6 = n / 79228162514264337593543950336 % 65536 := by unfold dgt; rfl
theorem dgt7 (n : Int) : dgt n 7 = n / 5192296858534827628530496329220096 % 65536 := by unfold dgt; rfl
theorem dgt8 (n : Int) : dgt n 8 = n / 340282366920938463463374607431768211456 % 65536 := by unfold dgt; rfl
theorem dgt9 (n : Int) : dgt n 9 = n / 22300745198530623141535718272648361505980416 % 65536 := by unfold dgt; rfl
theorem dgt_bd (n : Int) (i : Nat) : 0 ≤ dgt n i ∧ dgt n i ≤ 65535 := by unfold dgt; omega

/-- digits below 65536 are those of what they are together -/
theorem dgt_uniq (n x0 x1 x2 x3 x4 x5 x6 x7 x8 x9 : Int) (h : x0 + x1 * 65536 + x2 * 4294967296 + x3 * 281474976710656 + x4 * 18446744073709551616 + x5 * 1208925819614629174706176 + x6 * 79228162514264337593543950336 + x7 * 5192296858534827628530496329220096 + x8 * 340282366920938463463374607431768211456 + x9 * 22300745198530623141535718272648361505980416 = n) (a0 : 0 ≤ x0 ∧ x0 ≤ 65535) (a1 : 0 ≤ x1 ∧ x1 ≤ 65535) (a2 : 0 ≤ x2 ∧ x2 ≤ 65535) (a3 : 0 ≤ x3 ∧ x3 ≤ 65535) (a4 : 0 ≤ x4 ∧ x4 ≤ 65535) (a5 : 0 ≤ x5 ∧ x5 ≤ 65535) (a6 : 0 ≤ x6 ∧ x6 ≤ 65535) (a7 : 0 ≤ x7 ∧ x7 ≤ 65535) (a8 : 0 ≤ x8 ∧ x8 ≤ 65535) (a9 : 0 ≤ x9 ∧ x9 ≤ 65535) :
    x0 = dgt n 0 ∧ x1 = dgt n 1 ∧ x2 = dgt n 2 ∧ x3 = dgt n 3 ∧ x4 = dgt n 4 ∧ x5 = dgt n 5 ∧ x6 = dgt n 6 ∧ x7 = dgt n 7 ∧ x8 = dgt n 8 ∧ x9 = dgt n 9 := by
  simp only [dgt0, dgt1, dgt2, dgt3, dgt4, dgt5, dgt6, dgt7, dgt8, dgt9]
  subst h
  refine ⟨?_, ?_, ?_, ?_, ?_, ?_, ?_, ?_, ?_, ?_⟩ <;> omega

theorem dgt_val (n : Int) (h0 : 0 ≤ n) (h1 : n < 1461501637330902918203684832716283019655932542976) : val (dgt n) = n := by
  unfold val
  simp only [dgt0, dgt1, dgt2, dgt3, dgt4, dgt5, dgt6, dgt7, dgt8, dgt9]
  omega

end Go.Proofs.Ytaebbfaheaghfaa
