/- The walks of math/bits: Len64, LeadingZeros64, Mul64, Add64, Sub64 (Div64 stands in a text of its own). Plain arithmetic: the school division of 128 by 64 bits in two steps of 32 bits (Knuth's algorithm D), on natural numbers. No program in it. -/
import Derived.Test.YtaebbfaheaghfaaRows
import Derived.WalkKit
import Derived.WalkSpells
import Derived.WalkLawsBesides
import Derived.Lib.Mul64
import Derived.Laws.Bits64b
import Derived.Laws.MathBits
import Derived.Laws.Externs
import Derived.Lib.Hide

namespace Go.Proofs.Ytaebbfaheaghfaa
open Go.RowKit

theorem ret_int {k : IntKind} {a b : Int} (h : a = b) : Ending.returned (.int k a) = .returned (.int k b) := by rw [h]

theorem len_arith (k x z : Nat) (hk : k ≤ 56) (hz : x / 2 ^ k = z) (h2 : z < 256) (hne : k = 0 ∨ z ≠ 0) : wrap64 ((k : Int) + wrap64 (bitLen z : Int)) = (bitLen x : Int) := by
  have hl := bitLen_le8 z h2
  have e : bitLen x = k + bitLen z := by
    rcases hne with h | h
    · subst h; simp at hz; rw [hz]; omega
    · rw [bitLen_shift x k (by rw [hz]; exact h), hz]
  rw [e, IntWalk.wrap64_in (bitLen z : Int) ⟨by omega, by omega⟩, IntWalk.wrap64_in _ ⟨by omega, by omega⟩]
  omega

set_option maxHeartbeats 1000000 in
set_option maxRecDepth 100000 in
theorem len64_any (x : Int) (w : World) (h0 : 0 ≤ x) (h1 : x ≤ 18446744073709551615) :
    Calls Try.prog 64 #[.int .u64 x] w fun e w' => e = .returned (.int .i64 (bitLen x.toNat)) ∧ w = w' := by
  go_enter Try.func64, Try.ntmps64
  go_wp2
  all_goals (go_ret; refine ⟨ret_int ?_, rfl⟩; rw [len8tab_get])
  · exact len_arith 56 x.toNat _ (by omega) (by omega) (by omega) (by omega)
  · exact len_arith 48 x.toNat _ (by omega) (by omega) (by omega) (by omega)
  · exact len_arith 40 x.toNat _ (by omega) (by omega) (by omega) (by omega)
  · exact len_arith 32 x.toNat _ (by omega) (by omega) (by omega) (by omega)
  · exact len_arith 24 x.toNat _ (by omega) (by omega) (by omega) (by omega)
  · exact len_arith 16 x.toNat _ (by omega) (by omega) (by omega) (by omega)
  · exact len_arith 8 x.toNat _ (by omega) (by omega) (by omega) (by omega)
  · have := len_arith 0 x.toNat x.toNat (by omega) (by omega) (by omega) (by omega)
    simpa using this

set_option maxHeartbeats 1000000 in
theorem lz64_any (x : Int) (w : World) (h0 : 0 ≤ x) (h1 : x ≤ 18446744073709551615) :
    Calls Try.prog 58 #[.int .u64 x] w fun e w' => e = .returned (.int .i64 ((64 - bitLen x.toNat : Nat) : Int)) ∧ w = w' := by
  have hb : bitLen x.toNat ≤ 64 := by
    unfold bitLen
    split
    · omega
    · rename_i h
      have := (Nat.log2_lt h).2 (show x.toNat < 2 ^ 64 by omega)
      omega
  go_enter Try.func58, Try.ntmps58
  go_wp2_with (go_at_call 64; refine (len64_any _ _ h0 h1).mono ?_; rintro e w' ⟨rfl, rfl⟩)
  go_ret
  exact ⟨ret_int (by omega), rfl⟩

namespace Mul64
theorem maskN (a : Nat) (ha : a < 18446744073709551616) : bits .and .u64 (a : Int) 4294967295 = ((a % 4294967296 : Nat) : Int) := by
  have h := bits_and_u64_nat a 4294967295 ha (by omega)
  have e : a &&& 4294967295 = a % 4294967296 := Nat.and_two_pow_sub_one_eq_mod a 32
  rw [e] at h
  exact h
theorem divN (a : Nat) : (a : Int) / 4294967296 = ((a / 4294967296 : Nat) : Int) := by omega
theorem mulN (a b : Nat) : (a : Int) * (b : Int) = ((a * b : Nat) : Int) := (Int.natCast_mul a b).symm
theorem addN (a b : Nat) : (a : Int) + (b : Int) = ((a + b : Nat) : Int) := (Int.natCast_add a b).symm
theorem wrapN (a : Nat) (ha : a < 18446744073709551616) : IntKind.u64.wrap (a : Int) = (a : Int) := by rw [IntKind.wrap_u64]; omega
theorem wrapM (a : Nat) : IntKind.u64.wrap (a : Int) = ((a % 18446744073709551616 : Nat) : Int) := by rw [IntKind.wrap_u64]; omega
end Mul64

set_option maxHeartbeats 1000000 in
theorem mul64_nat (x y : Nat) (hx : x < 18446744073709551616) (hy : y < 18446744073709551616) (w : World) :
    Calls Try.prog 45 #[.int .u64 x, .int .u64 y] w fun e w' => e = .returned (.tuple #[.int .u64 ((x * y / 18446744073709551616 : Nat) : Int), .int .u64 ((x * y % 18446744073709551616 : Nat) : Int)]) ∧ w = w' := by
  obtain ⟨bd, bt, bw, hhi⟩ := Lib.mul64_hi x y hx hy
  have ba := Lib.half_mul_le (a := x / 4294967296) (b := y / 4294967296) (by omega) (by omega)
  have bb := Lib.half_mul_le (a := x / 4294967296) (b := y % 4294967296) (by omega) (by omega)
  have bc := Lib.half_mul_le (a := x % 4294967296) (b := y / 4294967296) (by omega) (by omega)
  have ba' : x / 4294967296 * (y / 4294967296) < 18446744073709551616 := by omega
  have bb' : x / 4294967296 * (y % 4294967296) < 18446744073709551616 := by omega
  have bc' : x % 4294967296 * (y / 4294967296) < 18446744073709551616 := by omega
  have bh1 : x / 4294967296 * (y / 4294967296) + (x / 4294967296 * (y % 4294967296) + x % 4294967296 * (y % 4294967296) / 4294967296) / 4294967296 < 18446744073709551616 := by omega
  have bh : x / 4294967296 * (y / 4294967296) + (x / 4294967296 * (y % 4294967296) + x % 4294967296 * (y % 4294967296) / 4294967296) / 4294967296 + ((x / 4294967296 * (y % 4294967296) + x % 4294967296 * (y % 4294967296) / 4294967296) % 4294967296 + x % 4294967296 * (y / 4294967296)) / 4294967296 < 18446744073709551616 := by omega
  have H := Lib.hid hhi
  clear hhi
  go_enter Try.func45, Try.ntmps45
  go_wp2
  simp only [Mul64.maskN x hx, Mul64.maskN y hy, Mul64.divN, Mul64.mulN, Mul64.addN, Mul64.wrapN _ bd, Mul64.wrapN _ bb', Mul64.wrapN _ bt, Mul64.maskN _ bt, Mul64.wrapN _ bc', Mul64.wrapN _ bw, Mul64.wrapN _ ba', Mul64.wrapN _ bh1, Mul64.wrapN _ bh, Mul64.wrapM (x * y)]
  rw [H.out]
  go_ret2
  exact ⟨rfl, rfl⟩

/-- Mul64 over Int. -/
theorem mul64_any (x y : Int) (w : World) (h0 : 0 ≤ x) (h1 : x < 18446744073709551616) (k0 : 0 ≤ y) (k1 : y < 18446744073709551616) :
    Calls Try.prog 45 #[.int .u64 x, .int .u64 y] w fun e w' => e = .returned (.tuple #[.int .u64 (x * y / 18446744073709551616), .int .u64 (x * y % 18446744073709551616)]) ∧ w = w' := by
  obtain ⟨x, rfl⟩ := Int.eq_ofNat_of_zero_le h0
  obtain ⟨y, rfl⟩ := Int.eq_ofNat_of_zero_le k0
  have := mul64_nat x y (by omega) (by omega) w
  simpa using this

/-- Add64 with no carry, as the model runs it. -/
theorem add64_0 (x y : Int) (hx : 0 ≤ x) (hy : 0 ≤ y) (w : World) : (callFunc 60 #[.int .u64 x, .int .u64 y, .int .u64 0]).run Try.prog w =
    .ok (.value (.tuple #[.int .u64 ((x + y) % 18446744073709551616), .int .u64 ((x + y) / 18446744073709551616)])) w := by
  rw [run_callFunc_extern Try.func60 (by kernel_rfl) (by kernel_rfl) (by kernel_rfl) (e := add64Entry) (by kernel_rfl), run_add64 x y 0 hx hy (by omega) (by omega)]
  simp only [Result.andThen, Int.add_zero]

def bor (x y : Int) : Int := if x < y then 1 else 0
theorem bor_01 (x y : Int) : 0 ≤ bor x y ∧ bor x y ≤ 1 := by unfold bor; split <;> omega

/-- The model's entry for math/bits.Sub64. -/
def sub64Entry : Array Value → Sem Value := fun args => do
  let (x, y, b) ← Extern.MathBitsCarry.three "Sub64" args
  pure (Extern.MathBitsCarry.pair ((x + Extern.MathBitsCarry.m64 - y - b) % Extern.MathBitsCarry.m64) (if x < y + b then 1 else 0))

theorem run_sub64 {P : Program} (x y b : Nat) (hb : b ≤ 1) (w : World) :
    (sub64Entry #[.int .u64 x, .int .u64 y, .int .u64 b]).run P w =
      .ok (.tuple #[.int .u64 (((x + 18446744073709551616 - y - b) % 18446744073709551616 : Nat) : Int), .int .u64 ((if x < y + b then 1 else 0 : Nat) : Int)]) w := by
  have : b = 0 ∨ b = 1 := by omega
  rcases this with rfl | rfl <;> rfl

theorem sub64 (x y b : Int) (hx : 0 ≤ x) (hy : 0 ≤ y) (hy' : y < 18446744073709551616) (hb0 : 0 ≤ b) (hb : b ≤ 1) (w : World) : (callFunc 57 #[.int .u64 x, .int .u64 y, .int .u64 b]).run Try.prog w =
    .ok (.value (.tuple #[.int .u64 ((x - y - b) % 18446744073709551616), .int .u64 (bor x (y + b))])) w := by
  obtain ⟨x, rfl⟩ := Int.eq_ofNat_of_zero_le hx
  obtain ⟨y, rfl⟩ := Int.eq_ofNat_of_zero_le hy
  obtain ⟨b, rfl⟩ := Int.eq_ofNat_of_zero_le hb0
  have e1 : (((x + 18446744073709551616 - y - b) % 18446744073709551616 : Nat) : Int) = ((x : Int) - y - b) % 18446744073709551616 := by omega
  have e2 : ((if x < y + b then 1 else 0 : Nat) : Int) = bor x (y + b) := by unfold bor; split <;> split <;> omega
  rw [← e1, ← e2]
  rw [run_callFunc_extern Try.func57 (by kernel_rfl) (by kernel_rfl) (by kernel_rfl) (e := sub64Entry) (by kernel_rfl), run_sub64 x y b (by omega)]
  rfl
theorem sub64_0 (x y : Int) (hx : 0 ≤ x) (hy : 0 ≤ y) (hy' : y < 18446744073709551616) (w : World) : (callFunc 57 #[.int .u64 x, .int .u64 y, .int .u64 0]).run Try.prog w =
    .ok (.value (.tuple #[.int .u64 ((x - y) % 18446744073709551616), .int .u64 (bor x y)])) w := by
  simpa using sub64 x y 0 hx hy hy' (Int.le_refl 0) (by decide) w

end Go.Proofs.Ytaebbfaheaghfaa

namespace Go.Proofs.Ytaebbfaheaghfaa.DivM

theorem split (q y1 y0 : Nat) : q * (y1 * 4294967296 + y0) = q * y1 * 4294967296 + q * y0 := by
  rw [Nat.mul_add, Nat.mul_assoc]

/-- the loop's invariant: q is not below the quotient -/
structure Inv (y1 y0 U d q r : Nat) : Prop where
  sum : q * y1 + r = U
  small : r < 4294967296
  above : U * 4294967296 + d < (q + 1) * (y1 * 4294967296 + y0)
  most : q ≤ 4294967297

theorem inv_init (y1 y0 U d : Nat) (h1 : 2147483648 ≤ y1) (h2 : y1 < 4294967296) (h0 : y0 < 4294967296) (hd : d < 4294967296) (hU : U < y1 * 4294967296 + y0) : Inv y1 y0 U d (U / y1) (U % y1) := by
  have hlt : U % y1 < y1 := Nat.mod_lt _ (by omega)
  have hs : U / y1 * y1 + U % y1 = U := Nat.div_add_mod' U y1
  refine ⟨hs, by omega, ?_, ?_⟩
  · rw [split, Nat.add_mul, Nat.add_mul]
    generalize U / y1 * y1 = p at *
    have := Nat.zero_le (U / y1 * y0 + 1 * y0)
    omega
  · have : U / y1 < 4294967298 := by
      rw [Nat.div_lt_iff_lt_mul (by omega)]
      omega
    omega

theorem go_pos (y0 d q r : Nat) (h : 4294967296 ≤ q ∨ 4294967296 * r + d < q * y0) : 1 ≤ q := by
  rcases h with h | h
  · omega
  · rcases Nat.eq_zero_or_pos q with e | e
    · subst e; omega
    · exact e

theorem go_above (y1 y0 U d q r : Nat) (hd : d < 4294967296) (hU : U < y1 * 4294967296 + y0) (hi : Inv y1 y0 U d q r) (h : 4294967296 ≤ q ∨ 4294967296 * r + d < q * y0) : U * 4294967296 + d < q * (y1 * 4294967296 + y0) := by
  rcases h with h | h
  · have := Nat.mul_le_mul_right (y1 * 4294967296 + y0) h
    omega
  · have hs := hi.sum
    rw [split]
    generalize q * y1 = p at *
    omega

theorem go_inv (y1 y0 U d q r : Nat) (hd : d < 4294967296) (hU : U < y1 * 4294967296 + y0) (hi : Inv y1 y0 U d q r) (h : 4294967296 ≤ q ∨ 4294967296 * r + d < q * y0) (hr : r + y1 < 4294967296) : Inv y1 y0 U d (q - 1) (r + y1) := by
  have ha := go_above y1 y0 U d q r hd hU hi h
  have hp := go_pos y0 d q r h
  obtain ⟨k, rfl⟩ : ∃ k, q = k + 1 := ⟨q - 1, by omega⟩
  have hs := hi.sum
  have hm := hi.most
  refine ⟨?_, hr, ?_, by omega⟩
  · rw [Nat.add_mul] at hs
    simp only [Nat.add_sub_cancel]
    omega
  · simpa using ha

/-- what a round's end by 'break' tells -/
theorem brk (y1 y0 U d q r : Nat) (h0 : y0 < 4294967296) (hd : d < 4294967296) (hU : U < y1 * 4294967296 + y0) (hi : Inv y1 y0 U d q r) (h : 4294967296 ≤ q ∨ 4294967296 * r + d < q * y0) (hr : 4294967296 ≤ r + y1) : q - 1 = (U * 4294967296 + d) / (y1 * 4294967296 + y0) := by
  have ha := go_above y1 y0 U d q r hd hU hi h
  have hp := go_pos y0 d q r h
  obtain ⟨k, rfl⟩ : ∃ k, q = k + 1 := ⟨q - 1, by omega⟩
  have hs := hi.sum
  have hm := hi.most
  simp only [Nat.add_sub_cancel]
  symm
  apply Nat.div_eq_of_lt_le
  · have h3 : k * y0 ≤ 4294967296 * y0 := Nat.mul_le_mul_right _ (by omega)
    rw [split]
    rw [Nat.add_mul] at hs
    generalize k * y1 = p at *
    omega
  · exact ha

theorem stop (y1 y0 U d q r : Nat) (hi : Inv y1 y0 U d q r) (h : q * y0 ≤ 4294967296 * r + d) : q = (U * 4294967296 + d) / (y1 * 4294967296 + y0) := by
  have hs := hi.sum
  symm
  apply Nat.div_eq_of_lt_le
  · rw [split]
    generalize q * y1 = p at *
    omega
  · exact hi.above

theorem q_lt (y1 y0 U d : Nat) (hd : d < 4294967296) (hU : U < y1 * 4294967296 + y0) : (U * 4294967296 + d) / (y1 * 4294967296 + y0) < 4294967296 := by
  rw [Nat.div_lt_iff_lt_mul (by omega)]
  omega

/-- two steps are one division -/
theorem two (y U a b : Nat) (hy : 0 < y) :
    (U * 4294967296 + a) / y * 4294967296 + ((U * 4294967296 + a) % y * 4294967296 + b) / y = (U * 18446744073709551616 + (a * 4294967296 + b)) / y ∧
    ((U * 4294967296 + a) % y * 4294967296 + b) % y = (U * 18446744073709551616 + (a * 4294967296 + b)) % y := by
  have e := Nat.div_add_mod' (U * 4294967296 + a) y
  have e2 : U * 18446744073709551616 + (a * 4294967296 + b) = ((U * 4294967296 + a) % y * 4294967296 + b) + y * ((U * 4294967296 + a) / y * 4294967296) := by
    rw [← Nat.mul_assoc, Nat.mul_comm y]
    generalize (U * 4294967296 + a) / y * y = p at *
    generalize (U * 4294967296 + a) % y = m at *
    omega
  rw [e2, Nat.add_mul_div_left _ _ hy, Nat.add_mul_mod_self_left]
  exact ⟨Nat.add_comm _ _, rfl⟩

/-- the shift: both sides 2^s times as great -/
theorem shifted (n y s : Nat) (_hy : 0 < y) : (n * 2 ^ s) / (y * 2 ^ s) = n / y ∧ (n * 2 ^ s) % (y * 2 ^ s) / 2 ^ s = n % y := by
  have hp : 0 < 2 ^ s := Nat.two_pow_pos s
  refine ⟨Nat.mul_div_mul_right _ _ hp, ?_⟩
  rw [Nat.mul_mod_mul_right, Nat.mul_div_cancel _ hp]

theorem halves (hi lo s : Nat) (hs : s ≤ 64) :
    (hi * 2 ^ s + lo / 2 ^ (64 - s)) * 18446744073709551616 + lo * 2 ^ s % 18446744073709551616 = (hi * 18446744073709551616 + lo) * 2 ^ s := by
  have e : (18446744073709551616 : Nat) = 2 ^ s * 2 ^ (64 - s) := by rw [← Nat.pow_add, show s + (64 - s) = 64 by omega]
  have e2 : lo * 2 ^ s / 18446744073709551616 = lo / 2 ^ (64 - s) := by
    rw [e, Nat.mul_comm lo, Nat.mul_div_mul_left _ _ (Nat.two_pow_pos s)]
  have e3 := Nat.div_add_mod' (lo * 2 ^ s) 18446744073709551616
  rw [e2] at e3
  rw [Nat.add_mul, Nat.add_mul, Nat.mul_right_comm hi]
  omega

theorem or_add (a b s : Nat) (h : b < 2 ^ s) : (a * 2 ^ s) ||| b = a * 2 ^ s + b := by
  rw [Nat.mul_comm, Nat.two_pow_add_eq_or_of_lt h]

/-- what the shift makes: y * 2^s is a number of 64 bits whose upper half is not below 2^31 -/
theorem norm (y s l : Nat) (hy : y < 2 ^ l) (hy2 : 2 ^ (l - 1) ≤ y) (hl : 1 ≤ l) (hl2 : l ≤ 64) (hs : s = 64 - l) :
    9223372036854775808 ≤ y * 2 ^ s ∧ y * 2 ^ s < 18446744073709551616 := by
  have hp : 0 < 2 ^ s := Nat.two_pow_pos s
  have a : 2 ^ (l - 1) * 2 ^ s = 9223372036854775808 := by
    rw [← Nat.pow_add, show l - 1 + s = 63 by omega]
  have b : 2 ^ l * 2 ^ s = 18446744073709551616 := by
    rw [← Nat.pow_add, show l + s = 64 by omega]
  refine ⟨?_, ?_⟩
  · rw [← a]; exact Nat.mul_le_mul_right _ hy2
  · rw [← b]; exact Nat.mul_lt_mul_of_pos_right hy hp

theorem u_lt (hi lo y s : Nat) (hs : s ≤ 64) (h : hi < y) (hl : lo < 18446744073709551616) : hi * 2 ^ s + lo / 2 ^ (64 - s) < y * 2 ^ s := by
  have e : (18446744073709551616 : Nat) = 2 ^ s * 2 ^ (64 - s) := by rw [← Nat.pow_add, show s + (64 - s) = 64 by omega]
  have a : lo / 2 ^ (64 - s) < 2 ^ s := by
    rw [Nat.div_lt_iff_lt_mul (Nat.two_pow_pos _), ← e]; exact hl
  have b : (hi + 1) * 2 ^ s ≤ y * 2 ^ s := Nat.mul_le_mul_right _ h
  rw [Nat.add_mul] at b
  omega

theorem low_lt (lo s : Nat) (hs : s ≤ 64) (hl : lo < 18446744073709551616) : lo / 2 ^ (64 - s) < 2 ^ s := by
  have e : (18446744073709551616 : Nat) = 2 ^ s * 2 ^ (64 - s) := by rw [← Nat.pow_add, show s + (64 - s) = 64 by omega]
  rw [Nat.div_lt_iff_lt_mul (Nat.two_pow_pos _), ← e]; exact hl

/-- the whole: the two steps' answers are the division's -/
theorem whole (hi lo y s Y U L : Nat) (hs : s ≤ 64) (hy : 0 < y) (eY : Y = y * 2 ^ s) (eU : U = hi * 2 ^ s + lo / 2 ^ (64 - s)) (eL : L = lo * 2 ^ s % 18446744073709551616)
    (Q1 V Q0 : Nat) (e1 : Q1 = (U * 4294967296 + L / 4294967296) / Y) (eV : V = (U * 4294967296 + L / 4294967296) % Y) (e0 : Q0 = (V * 4294967296 + L % 4294967296) / Y) :
    Q1 * 4294967296 + Q0 = (hi * 18446744073709551616 + lo) / y ∧ (V * 4294967296 + L % 4294967296) % Y / 2 ^ s = (hi * 18446744073709551616 + lo) % y := by
  have hY : 0 < Y := by rw [eY]; exact Nat.mul_pos hy (Nat.two_pow_pos s)
  have h2 := two Y U (L / 4294967296) (L % 4294967296) hY
  rw [show L / 4294967296 * 4294967296 + L % 4294967296 = L by omega] at h2
  have hN : U * 18446744073709551616 + L = (hi * 18446744073709551616 + lo) * 2 ^ s := by
    rw [eU, eL]; exact halves hi lo s hs
  rw [hN] at h2
  have hsh := shifted (hi * 18446744073709551616 + lo) y s hy
  subst e1 eV e0
  rw [← eY] at hsh
  refine ⟨?_, ?_⟩
  · rw [h2.1]; exact hsh.1
  · rw [h2.2]; exact hsh.2

end Go.Proofs.Ytaebbfaheaghfaa.DivM
