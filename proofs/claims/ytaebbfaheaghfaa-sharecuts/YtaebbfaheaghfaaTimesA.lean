/- The contracts of falseworkref01, seventh part: what Times wants. -/
import Derived.Test.YtaebbfaheaghfaaNumMem
import Derived.Deep.RegionHeld3
namespace Go.Proofs.Ytaebbfaheaghfaa
open Go.RowKit

theorem then_np (K : Act → World → Prop) (Q : Exit → Act → World → Prop) : ∀ (e : Exit) (a : Act) (w : World), Exit.then K (NoPanic Q) e a w → Exit.then K Q e a w := fun e a w h => by
  cases e <;> first | exact h | exact (h : False).elim

theorem carry_x (s x0 x1 x2 x3 x4 x5 x6 x7 x8 x9 : Int) (w : World) (h0 : 0 ≤ x0 ∧ x0 ≤ 4611686018427387904) (h1 : 0 ≤ x1 ∧ x1 ≤ 4611686018427387904) (h2 : 0 ≤ x2 ∧ x2 ≤ 4611686018427387904) (h3 : 0 ≤ x3 ∧ x3 ≤ 4611686018427387904) (h4 : 0 ≤ x4 ∧ x4 ≤ 4611686018427387904) (h5 : 0 ≤ x5 ∧ x5 ≤ 4611686018427387904) (h6 : 0 ≤ x6 ∧ x6 ≤ 4611686018427387904) (h7 : 0 ≤ x7 ∧ x7 ≤ 4611686018427387904) (h8 : 0 ≤ x8 ∧ x8 ≤ 4611686018427387904) (h9 : 0 ≤ x9 ∧ x9 ≤ 4611686018427387904) (hs : x0 + x1 * 65536 + x2 * 4294967296 + x3 * 281474976710656 + x4 * 18446744073709551616 + x5 * 1208925819614629174706176 + x6 * 79228162514264337593543950336 + x7 * 5192296858534827628530496329220096 + x8 * 340282366920938463463374607431768211456 + x9 * 22300745198530623141535718272648361505980416 = s) (hv : s < 1461501637330902918203684832716283019655932542976) :
    Calls Try.prog 34 #[.agg #[.int .u64 x0, .int .u64 x1, .int .u64 x2, .int .u64 x3, .int .u64 x4, .int .u64 x5, .int .u64 x6, .int .u64 x7, .int .u64 x8, .int .u64 x9]] w fun e w' => e = .returned (D s) ∧ ∃ X Y n, w' = ((w.alloc X).alloc Y).drewN n := by
  have h := carry_any (fun i => match i with | 0 => x0 | 1 => x1 | 2 => x2 | 3 => x3 | 4 => x4 | 5 => x5 | 6 => x6 | 7 => x7 | 8 => x8 | _ => x9) w ?_ ?_
  · have e : val (fun i => match i with | 0 => x0 | 1 => x1 | 2 => x2 | 3 => x3 | 4 => x4 | 5 => x5 | 6 => x6 | 7 => x7 | 8 => x8 | _ => x9) = s := by rw [← hs]; rfl
    rw [e] at h
    exact h
  · intro i hi
    match i, hi with
    | 0, _ => exact h0
    | 1, _ => exact h1
    | 2, _ => exact h2
    | 3, _ => exact h3
    | 4, _ => exact h4
    | 5, _ => exact h5
    | 6, _ => exact h6
    | 7, _ => exact h7
    | 8, _ => exact h8
    | 9, _ => exact h9
  · have e : val (fun i => match i with | 0 => x0 | 1 => x1 | 2 => x2 | 3 => x3 | 4 => x4 | 5 => x5 | 6 => x6 | 7 => x7 | 8 => x8 | _ => x9) = s := by rw [← hs]; rfl
    rw [e]
    exact hv

theorem prod16 (a b : Int) (ha : 0 ≤ a ∧ a ≤ 65535) (hb : 0 ≤ b ∧ b ≤ 65535) : 0 ≤ a * b ∧ a * b ≤ 4294836225 := by
  refine ⟨Int.mul_nonneg ha.1 hb.1, ?_⟩
  have := Int.mul_le_mul ha.2 hb.2 hb.1 (by omega : (0 : Int) ≤ 65535)
  omega

theorem low4x (x : Int) (x0 : 0 ≤ x) (x1 : x ≤ 9223372036854775808) : dgt x 0 + dgt x 1 * 65536 + dgt x 2 * 4294967296 + dgt x 3 * 281474976710656 = x := by
  simp only [dgt0, dgt1, dgt2, dgt3]
  omega

/-- one digit of x times all of y -/
theorem row_mul (d y0 y1 y2 y3 y : Int) (h : y0 + y1 * 65536 + y2 * 4294967296 + y3 * 281474976710656 = y) : d * y0 + d * y1 * 65536 + d * y2 * 4294967296 + d * y3 * 281474976710656 = d * y := by
  rw [← h, Int.mul_add, Int.mul_add, Int.mul_add, Int.mul_assoc, Int.mul_assoc, Int.mul_assoc]

theorem col_mul (x0 x1 x2 x3 x y : Int) (h : x0 + x1 * 65536 + x2 * 4294967296 + x3 * 281474976710656 = x) : x0 * y + x1 * y * 65536 + x2 * y * 4294967296 + x3 * y * 281474976710656 = x * y := by
  rw [← h, Int.add_mul, Int.add_mul, Int.add_mul, Int.mul_right_comm x1, Int.mul_right_comm x2, Int.mul_right_comm x3]

theorem dy_bd (d y : Int) (hd : 0 ≤ d ∧ d ≤ 65535) (h0 : 0 ≤ y) (h1 : y ≤ 9223372036854775808) : 0 ≤ d * y ∧ d * y ≤ 604453686435277732577280 := by
  refine ⟨Int.mul_nonneg hd.1 h0, ?_⟩
  have := Int.mul_le_mul hd.2 h1 h0 (by omega : (0 : Int) ≤ 65535)
  omega

/-- the first loop in a text -/
def firstLoop : Code → Option Code
  | .loop c => some c
  | .seq a b => match firstLoop a with
    | some c => some c
    | none => firstLoop b
  | .block _ c => firstLoop c
  | .scope c => firstLoop c
  | .cond _ a b => match firstLoop a with
    | some c => some c
    | none => firstLoop b
  | _ => none
end Go.Proofs.Ytaebbfaheaghfaa
