/- Registers that take bits in: mathematics. Package crc: a bit is taken in; Start, Sum. Package crc: Add. -/
import Derived.Lib.Hide
import Derived.Test.YtdfbpaajkpnaeaaGreatPkB
import Derived.Laws.BitsAllLaws
import Derived.ScopeJumps
import Derived.WalkMore
import Derived.IntWalk

namespace Go.Proofs.YtdfbpaajkpnaeaaGreat
set_option maxRecDepth 100000

/-- what is added where a 1 was told -/
def PO : Nat := 3988292384
/-- a bit is taken in -/
def tk (r b : Nat) : Nat := (r / 2) ^^^ (PO * ((r % 2) ^^^ b))
theorem xor_mod2 (a b : Nat) : (a ^^^ b) % 2 = (a % 2) ^^^ (b % 2) := Nat.xor_mod_two_pow (n := 1)
theorem xor_lt32 {a b : Nat} (ha : a < 4294967296) (hb : b < 4294967296) : a ^^^ b < 4294967296 := Nat.xor_lt_two_pow (n := 32) ha hb
theorem mod2_cases (a : Nat) : a % 2 = 0 ∨ a % 2 = 1 := by omega
theorem le1_cases {b : Nat} (h : b ≤ 1) : b = 0 ∨ b = 1 := by omega
theorem xor_le1 {a b : Nat} (ha : a ≤ 1) (hb : b ≤ 1) : a ^^^ b ≤ 1 := by
  rcases le1_cases ha with rfl | rfl <;> rcases le1_cases hb with rfl | rfl <;> decide
theorem mul_le1 {x : Nat} (h : x ≤ 1) : PO * x < 4294967296 := by
  rcases le1_cases h with rfl | rfl <;> decide
theorem tk_lt {r b : Nat} (hr : r < 4294967296) (hb : b ≤ 1) : tk r b < 4294967296 := by
  unfold tk
  refine xor_lt32 (by omega) (mul_le1 (xor_le1 (by omega) hb))
theorem mul_xor {x y : Nat} (hx : x ≤ 1) (hy : y ≤ 1) : PO * (x ^^^ y) = (PO * x) ^^^ (PO * y) := by
  rcases le1_cases hx with rfl | rfl <;> rcases le1_cases hy with rfl | rfl <;> decide
theorem xor4 (a b c d : Nat) : (a ^^^ b) ^^^ (c ^^^ d) = (a ^^^ c) ^^^ (b ^^^ d) := by
  rw [Nat.xor_assoc, Nat.xor_assoc, ← Nat.xor_assoc b c d, Nat.xor_comm b c, Nat.xor_assoc c b d]
theorem tk_lin (r s b c : Nat) (hb : b ≤ 1) (hc : c ≤ 1) : tk (r ^^^ s) (b ^^^ c) = tk r b ^^^ tk s c := by
  unfold tk
  have h1 : r % 2 ≤ 1 := by omega
  have h2 : s % 2 ≤ 1 := by omega
  rw [Nat.xor_div_two, xor_mod2, xor4 (r % 2) (s % 2) b c, mul_xor (xor_le1 h1 hb) (xor_le1 h2 hc), xor4]

/-- the k-th bit of some bytes -/
def bitAt (l : List UInt8) (k : Nat) : Nat := (l.getD (k / 8) 0).toNat / 2 ^ (k % 8) % 2
theorem bitAt_le (l : List UInt8) (k : Nat) : bitAt l k ≤ 1 := by unfold bitAt; omega
/-- the register behind k bits -/
def up (r : Nat) (l : List UInt8) : Nat → Nat
  | 0 => r
  | k + 1 => tk (up r l k) (bitAt l k)
theorem up_lt {r : Nat} (hr : r < 4294967296) (l : List UInt8) (k : Nat) : up r l k < 4294967296 := by
  induction k with
  | zero => exact hr
  | succ k ih => exact tk_lt ih (bitAt_le _ _)
/-- the register behind bytes -/
def ad (r : Nat) (l : List UInt8) : Nat := up r l (8 * l.length)
theorem ad_lt {r : Nat} (hr : r < 4294967296) (l : List UInt8) : ad r l < 4294967296 := up_lt hr l _
theorem bitAt_left (a b : List UInt8) {k : Nat} (h : k < 8 * a.length) : bitAt (a ++ b) k = bitAt a k := by
  unfold bitAt
  have : k / 8 < a.length := by omega
  simp [List.getD, List.getElem?_append_left this]
theorem bitAt_right (a b : List UInt8) (k : Nat) : bitAt (a ++ b) (8 * a.length + k) = bitAt b k := by
  unfold bitAt
  have e1 : (8 * a.length + k) / 8 = a.length + k / 8 := by omega
  have e2 : (8 * a.length + k) % 8 = k % 8 := by omega
  rw [e1, e2]
  simp only [List.getD]
  rw [List.getElem?_append_right (by omega), show a.length + k / 8 - a.length = k / 8 by omega]
theorem up_left (r : Nat) (a b : List UInt8) (k : Nat) (h : k ≤ 8 * a.length) : up r (a ++ b) k = up r a k := by
  induction k with
  | zero => rfl
  | succ k ih => rw [up, up, ih (by omega), bitAt_left a b (by omega)]
theorem up_right (r : Nat) (a b : List UInt8) (k : Nat) : up r (a ++ b) (8 * a.length + k) = up (ad r a) b k := by
  induction k with
  | zero => exact up_left r a b _ (by omega)
  | succ k ih => rw [← Nat.add_assoc, up, up, ih, bitAt_right]
theorem ad_app (r : Nat) (a b : List UInt8) : ad r (a ++ b) = ad (ad r a) b := by
  unfold ad
  rw [List.length_append, Nat.mul_add, up_right]
  rfl
theorem ad_nil (r : Nat) : ad r [] = r := rfl

/-- k zeros are taken in -/
def zs : Nat → Nat → Nat
  | 0, r => r
  | k + 1, r => tk (zs k r) 0
theorem zs_lt {r : Nat} (hr : r < 4294967296) (k : Nat) : zs k r < 4294967296 := by
  induction k with
  | zero => exact hr
  | succ k ih => exact tk_lt ih (by omega)
theorem zs_lin (k r s : Nat) : zs k (r ^^^ s) = zs k r ^^^ zs k s := by
  induction k with
  | zero => rfl
  | succ k ih =>
    rw [zs, zs, zs, ih]
    exact tk_lin _ _ 0 0 (by omega) (by omega)
theorem zs_add (j k r : Nat) : zs (j + k) r = zs k (zs j r) := by
  induction k with
  | zero => rfl
  | succ k ih => rw [← Nat.add_assoc, zs, zs, ih]
theorem up_xor (r s : Nat) (l : List UInt8) (k : Nat) : up r l k ^^^ up s l k = zs k (r ^^^ s) := by
  induction k with
  | zero => rfl
  | succ k ih =>
    rw [up, up, zs, ← ih, ← tk_lin _ _ _ _ (bitAt_le _ _) (bitAt_le _ _), Nat.xor_self]
theorem up_zero (r : Nat) (k : Nat) (hk : k ≤ 8) : up r [0] k = zs k r := by
  induction k with
  | zero => rfl
  | succ k ih =>
    rw [up, zs, ih (by omega)]
    have : k / 8 = 0 := by omega
    simp [bitAt, this]
theorem ad_zero (r : Nat) : ad r [0] = zs 8 r := up_zero r 8 (by omega)

/-- what a register says -/
def sm (r : Nat) : Nat := 4294967295 ^^^ r
theorem sm_lt {r : Nat} (hr : r < 4294967296) : sm r < 4294967296 := xor_lt32 (by omega) hr
theorem sm_sub {r : Nat} (hr : r < 4294967296) : sm r = 4294967295 - r := by
  have e : 4294967295 - r = 2 ^ 32 - (r + 1) := by omega
  rw [e]
  unfold sm
  apply Nat.eq_of_testBit_eq
  intro i
  rw [Nat.testBit_xor, Nat.testBit_two_pow_sub_succ (by omega), show (4294967295 : Nat) = 2 ^ 32 - 1 by decide, Nat.testBit_two_pow_sub_one]
  by_cases h : i < 32
  · simp [h]
  · have : r.testBit i = false := Nat.testBit_lt_two_pow (Nat.lt_of_lt_of_le (show r < 2 ^ 32 by omega) (Nat.pow_le_pow_right (by omega) (by omega)))
    simp [h, this]
/-- two texts joined -/
def jn (a b n : Nat) : Nat := zs (8 * n) a ^^^ b
theorem jn_lt {a b : Nat} (ha : a < 4294967296) (hb : b < 4294967296) (n : Nat) : jn a b n < 4294967296 := xor_lt32 (zs_lt ha _) hb
theorem jn_sum (r : Nat) (l : List UInt8) : jn (sm r) (sm (ad 4294967295 l)) l.length = sm (ad r l) := by
  unfold jn sm ad
  have h := up_xor 4294967295 r l (8 * l.length)
  rw [← h, Nat.xor_comm (up 4294967295 l _), Nat.xor_assoc, Nat.xor_comm 4294967295 (up 4294967295 l _), ← Nat.xor_assoc (up 4294967295 l _), Nat.xor_self, Nat.zero_xor, Nat.xor_comm]
theorem jn_three (x y z m n : Nat) : jn x (jn y z n) (m + n) = jn (jn x y m) z n := by
  unfold jn
  rw [Nat.mul_add, zs_add, zs_lin, Nat.xor_assoc]
theorem jn_none (x : Nat) : jn x 0 0 = x := by unfold jn; simp [zs]

/-- what the columns of a matrix make of a number, by its lowest bits -/
def tm (m : Nat → Nat) (v : Nat) : Nat → Nat
  | 0 => 0
  | i + 1 => if v / 2 ^ i % 2 = 1 then tm m v i ^^^ m i else tm m v i
theorem tm_lt {m : Nat → Nat} (hm : ∀ i, m i < 4294967296) (v i : Nat) : tm m v i < 4294967296 := by
  induction i with
  | zero => exact (by decide : 0 < 4294967296)
  | succ i ih =>
    rw [tm]
    split
    · exact xor_lt32 ih (hm i)
    · exact ih
/-- bits are added apart -/
def Lin (f : Nat → Nat) : Prop := ∀ a b, f (a ^^^ b) = f a ^^^ f b
theorem Lin.zero {f : Nat → Nat} (h : Lin f) : f 0 = 0 := by
  have := h 0 0
  rw [Nat.xor_self, Nat.xor_self] at this
  exact this
theorem mod_next (v i : Nat) : v % 2 ^ (i + 1) = (v % 2 ^ i) ^^^ (v / 2 ^ i % 2 * 2 ^ i) := by
  apply Nat.eq_of_testBit_eq
  intro j
  rw [Nat.testBit_xor, Nat.testBit_mod_two_pow, Nat.testBit_mod_two_pow]
  have hb : (v / 2 ^ i % 2 * 2 ^ i).testBit j = (decide (j = i) && v.testBit i) := by
    have e : v / 2 ^ i % 2 = (v.testBit i).toNat := by
      rw [Nat.toNat_testBit]
    rw [e]
    cases v.testBit i <;> simp [Nat.testBit_two_pow, eq_comm]
  rw [hb]
  rcases Nat.lt_trichotomy j i with h | h | h
  · simp [show j < i + 1 by omega, h, show j ≠ i by omega]
  · subst h; simp
  · simp [show ¬ j < i + 1 by omega, show ¬ j < i by omega, show j ≠ i by omega]
theorem tm_lin {f : Nat → Nat} (h : Lin f) (v i : Nat) : tm (fun j => f (2 ^ j)) v i = f (v % 2 ^ i) := by
  induction i with
  | zero => rw [tm, Nat.pow_zero, Nat.mod_one, h.zero]
  | succ i ih =>
    rw [tm, mod_next, h, ih]
    split
    · next e => rw [e, Nat.one_mul]
    · next e =>
      rw [show v / 2 ^ i % 2 = 0 by omega, Nat.zero_mul, h.zero, Nat.xor_zero]
theorem tm_all {f : Nat → Nat} (h : Lin f) {v : Nat} (hv : v < 4294967296) : tm (fun j => f (2 ^ j)) v 32 = f v := by
  rw [tm_lin h, Nat.mod_eq_of_lt hv]
theorem zs_Lin (k : Nat) : Lin (zs k) := fun a b => zs_lin k a b

/-- a bit of a register -/
def bt (r i : Nat) : Nat := r / 2 ^ i % 2
theorem bt_le (r i : Nat) : bt r i ≤ 1 := by unfold bt; omega
theorem bt_test (r i : Nat) : bt r i = (r.testBit i).toNat := by unfold bt; rw [Nat.toNat_testBit]
theorem bt_xor (a b i : Nat) : bt (a ^^^ b) i = (bt a i + bt b i) % 2 := by
  rw [bt_test, bt_test, bt_test, Nat.testBit_xor]
  cases a.testBit i <;> cases b.testBit i <;> rfl
theorem bt_half (r i : Nat) : bt (r / 2) i = bt r (i + 1) := by
  unfold bt
  rw [Nat.div_div_eq_div_mul, Nat.pow_succ, Nat.mul_comm]
theorem bt_big {r i : Nat} (hr : r < 2 ^ i) : bt r i = 0 := by
  unfold bt
  rw [Nat.div_eq_of_lt hr]
theorem bt_tk (r b i : Nat) : bt (tk r b) i = (bt r (i + 1) + (if (r % 2 + b) % 2 = 1 then bt PO i else 0)) % 2 ∨ 1 < b := by
  by_cases hb : b ≤ 1
  · left
    unfold tk
    rw [bt_xor, bt_half]
    have h : (r % 2) ^^^ b = (r % 2 + b) % 2 := by
      rcases mod2_cases r with e | e <;> rw [e] <;> rcases le1_cases hb with rfl | rfl <;> decide
    rw [h]
    split
    · next e => rw [e, Nat.mul_one]
    · next e => rw [show (r % 2 + b) % 2 = 0 by omega, Nat.mul_zero, show bt 0 i = 0 by unfold bt; simp]
  · right; omega
theorem down_next (r i : Nat) : 2 * (r / 2 ^ (i + 1)) + bt r i = r / 2 ^ i := by
  unfold bt
  rw [Nat.pow_succ, ← Nat.div_div_eq_div_mul]
  omega
end Go.Proofs.YtdfbpaajkpnaeaaGreat

namespace Go.Proofs.YtdfbpaajkpnaeaaGreat
set_option maxRecDepth 100000
open Go.RowKit Go.Lib

theorem and1_32 (r : Nat) (hr : r < 4294967296) : bits .and .u32 (r : Int) 1 = ((r % 2 : Nat) : Int) := by
  have := u32_and_nat r 1 hr (by omega)
  rw [Nat.and_one_is_mod] at this
  exact this
theorem and1_8 (r : Nat) (hr : r < 256) : bits .and .u8 (r : Int) 1 = ((r % 2 : Nat) : Int) := by
  have := u8_and_nat r 1 hr (by omega)
  rw [Nat.and_one_is_mod] at this
  exact this
theorem take_eq (r b : Nat) (hr : r < 4294967296) (hb : b ≤ 1) : bits .xor .u32 ((r : Int) / 2) (3988292384 * bits .xor .u32 (bits .and .u32 (r : Int) 1) (b : Int) % 4294967296) = (tk r b : Int) := by
  rw [and1_32 r hr, u32_xor_nat _ _ (by omega) (by omega)]
  have hx : (r % 2) ^^^ b ≤ 1 := xor_le1 (by omega) hb
  have hm := mul_le1 hx
  unfold tk
  generalize (r % 2) ^^^ b = x at *
  have e : (3988292384 * (x : Int) % 4294967296) = ((PO * x : Nat) : Int) := by
    unfold PO at *
    omega
  rw [e, show (r : Int) / 2 = ((r / 2 : Nat) : Int) by omega, u32_xor_nat _ _ (by omega) hm]
theorem sum_eq (r : Nat) (hr : r < 4294967296) : bits .xor .u32 IntKind.u32.max (r : Int) = (sm r : Int) := by
  have e : IntKind.u32.max = ((4294967295 : Nat) : Int) := by decide
  rw [e, u32_xor_nat _ _ (by omega) hr]
  rfl

theorem take_any (r b : Nat) (w : World) (hr : r < 4294967296) (hb : b ≤ 1) :
    Calls Tryz.prog 108 #[.int .u32 (r : Int), .int .u8 (b : Int)] w fun e w' => e = .returned (.int .u32 (tk r b : Int)) ∧ w = w' := by
  have hr' : (r : Int) < 4294967296 := by omega
  have H := Lib.hid (take_eq r b hr hb)
  go_enter Tryz.func108, Tryz.ntmps108
  go_wp2
  go_ret
  exact ⟨ret_int H.out, rfl⟩
theorem start_any (w : World) : Calls Tryz.prog 97 #[] w fun e w' => e = .returned (.int .u32 4294967295) ∧ w = w' := by
  go_enter Tryz.func97, Tryz.ntmps97
  go_wp2
  go_ret
  exact ⟨rfl, rfl⟩
theorem sum_any (r : Nat) (w : World) (hr : r < 4294967296) : Calls Tryz.prog 99 #[.int .u32 (r : Int)] w fun e w' => e = .returned (.int .u32 (sm r : Int)) ∧ w = w' := by
  have H := Lib.hid (sum_eq r hr)
  go_enter Tryz.func99, Tryz.ntmps99
  go_wp2
  go_ret
  exact ⟨ret_int H.out, rfl⟩
end Go.Proofs.YtdfbpaajkpnaeaaGreat

namespace Go.Proofs.YtdfbpaajkpnaeaaGreat
set_option maxRecDepth 100000
open Go.RowKit Go.Lib

/-- bytes that were just laid -/
theorem bat_new (w : World) (l : List UInt8) (vs : Array Value) (t : TypeId) (h : vs.toList = bcells l) : BAt (w.alloc (.cells vs t)) (some ⟨w.heap.size, 0, none⟩) l := by
  refine Or.inr ⟨w.heap.size, 0, rfl, by simp, fun i hi => ?_⟩
  rw [Nat.zero_add, World.cell?_alloc_new, ← Array.getElem?_toList, h, bcells_get hi]
theorem ccell_bl {w w' : World} {q i : Nat} {v : Value} (h : w.cell? ⟨q, i, none⟩ = some v) (hb : RowKit.Below w.heap.size w w') : w'.cell? ⟨q, i, none⟩ = some v := by
  rw [hb.cell (p := ⟨q, i, none⟩) (World.block_lt_of_cell? w _ h)]; exact h
theorem bit_cell {w : World} {a : Option Addr} {l : List UInt8} (h : BAt w a l) {k : Nat} (hk : k < 8 * l.length) :
    ∃ b off j i x, a = some ⟨b, off, none⟩ ∧ k / 8 = j ∧ k % 8 = i ∧ j < l.length ∧ i < 8 ∧ x < 256 ∧ w.cell? ⟨b, off + j, none⟩ = some (.int .u8 ((x : Nat) : Int)) ∧ bitAt l k = x / 2 ^ i % 2 := by
  rcases h with h | ⟨b, off, ha, hlt, hc⟩
  · subst h; simp at hk
  · exact ⟨b, off, k / 8, k % 8, (l.getD (k / 8) 0).toNat, ha, rfl, rfl, by omega, by omega, UInt8.toNat_lt _, hc _ (by omega), rfl⟩

/-- where Add stands behind k bits -/
def AddAt (r : Nat) (a : Option Addr) (l : List UInt8) (cap : Nat) (w : World) (a' : Act) (w' : World) : Prop :=
  w = w' ∧ ∃ (k : Nat) (u6 u7 u8 u9 u10 u11 u12 u13 u14 u15 u16 u17 u18 u19 u20 u21 u22 u23 u24 : Value), a' = { tmps := #[.int .u32 (up r l k : Int), .slice a l.length cap, undef, undef, .int .u32 0, .int .i64 (k : Int), u6, u7, u8, u9, u10, u11, u12, u13, u14, u15, u16, u17, u18, u19, u20, u21, u22, u23, u24], defers := [] } ∧ k ≤ 8 * l.length
def placeOf (a : Act) : Nat := (match a.tmps.getD 5 undef with | .int _ q => q | _ => 0).toNat
set_option maxRecDepth 100000 in
theorem add_any (r : Nat) (a : Option Addr) (l : List UInt8) (n cap : Nat) (w : World) (hr : r < 4294967296) (hb : BAt w a l) (hn : l.length = n) (hl : n ≤ 1000000) :
    Calls Tryz.prog 98 #[.int .u32 (r : Int), .slice a n cap] w fun e w' => e = .returned (.int .u32 (ad r l : Int)) ∧ w = w' := by
  subst hn
  have HB := Lib.hid hb
  have HR := Lib.hid hr
  clear hb
  go_enter Tryz.func98, Tryz.ntmps98
  go_wp2
  refine wp_scope_jumps 0 (AddAt r a l cap w) (fun a' _ => 8 * l.length - placeOf a') rfl ?_ ?_
  · by_cases hz : l.length = 0
    · have d0 : ((0 : Int) == 8 * (l.length : Int)) = true := by simp [hz]
      have hz' : l = [] := List.eq_nil_of_length_eq_zero hz
      have HZ := Lib.hid (show ad r l = r by rw [hz']; rfl)
      clear hz hz'
      go_wp2
      go_step3
      go_wp2
      simp only [Exit.jump]
      go_ret
      exact ⟨ret_int (by rw [HZ.out]), rfl⟩
    · have d0 : ((0 : Int) == 8 * (l.length : Int)) = false := by simp; omega
      obtain ⟨b, off, j, i, x, rfl, hj, hi, hjl, hi8, hx, hc, hbit⟩ := bit_cell HB.out (k := 0) (by omega)
      have : j = 0 := by omega
      subst this
      have : i = 0 := by omega
      subst this
      have HE := Lib.hid hbit
      have HT := Lib.hid (take_any r (bitAt l 0) w hr (bitAt_le l 0))
      have HE1 := Lib.hid (show bits .and .u8 (x : Int) 1 = (bitAt l 0 : Int) by rw [and1_8 x hx, HE.out]; simp)
      rw [Nat.add_zero] at hc
      clear hbit hj hi hz hi8
      go_wp2
      go_step3
      go_wp2_with fail
      rw [HE1.out]
      refine HT.out.mono ?_
      rintro _ _ ⟨rfl, rfl⟩
      go_wp2
      go_step3
      exact ⟨rfl, rfl, 1, _, _, _, _, _, _, _, _, _, _, _, _, _, _, _, _, _, _, _, rfl, by omega⟩
  · rintro a' w' ⟨rfl, k, u6, u7, u8, u9, u10, u11, u12, u13, u14, u15, u16, u17, u18, u19, u20, u21, u22, u23, u24, rfl, hk⟩
    by_cases hz : 8 * l.length = k
    · have d0 : ((k : Int) == 8 * (l.length : Int)) = true := by simp; omega
      have HZ := Lib.hid (show up r l k = ad r l by rw [← hz]; rfl)
      clear hz
      go_wp2
      simp only [Exit.jump]
      go_ret
      exact ⟨ret_int (by rw [HZ.out]), rfl⟩
    · have d0 : ((k : Int) == 8 * (l.length : Int)) = false := by simp; omega
      obtain ⟨b, off, j, i, x, rfl, hj, hi, hjl, hi8, hx, hc, hbit⟩ := bit_cell HB.out (k := k) (by omega)
      have hJ : (k : Int) / 8 = (j : Int) := by omega
      have hI : (k : Int) % 8 = (i : Int) := by omega
      have HT := Lib.hid (take_any (up r l k) (bitAt l k) w (up_lt hr l k) (bitAt_le l k))
      have HE1 := Lib.hid (show bits .and .u8 ((x : Int) / 2 ^ i) 1 = (bitAt l k : Int) by
        have e : (x : Int) / 2 ^ i = ((x / 2 ^ i : Nat) : Int) := by simp
        rw [e, and1_8 _ (by have := Nat.div_le_self x (2 ^ i); omega), hbit])
      clear hbit hj hi
      have hk2 : k + 1 ≤ 8 * l.length := by omega
      clear hz
      go_wp2_with fail
      rw [HE1.out]
      refine HT.out.mono ?_
      rintro _ _ ⟨rfl, rfl⟩
      go_wp2
      go_step3
      refine ⟨rfl, ⟨rfl, k + 1, _, _, _, _, _, _, _, _, _, _, _, _, _, _, _, _, _, _, _, rfl, hk2⟩, ?_⟩
      simp [placeOf]
      omega
end Go.Proofs.YtdfbpaajkpnaeaaGreat
