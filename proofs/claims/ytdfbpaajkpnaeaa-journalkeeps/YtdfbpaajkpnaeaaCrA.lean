/- Package crc: a bit is taken in; Start, Sum. -/
import Derived.Test.YtdfbpaajkpnaeaaCrM
import Derived.Test.YtdfbpaajkpnaeaaPkB
import Derived.Laws.BitsAllLaws
namespace Go.Proofs.Ytdfbpaajkpnaeaa
set_option maxRecDepth 100000
open Go.RowKit Go.Lib

theorem and1_32 (r : Nat) (hr : r < 4294967296) : bits .and .u32 (r : Int) 1 = ((r % 2 : Nat) : Int) := by
  have := u32_and_nat r 1 hr (by omega)
  rw [Nat.and_one_is_mod] at this
  exact this
theorem and1_8 (r : Nat) (hr : r < 256) : bits .and .u8 (r : Int) 1 = ((r % 2 : Nat) : Int) := by
  have := u8_and_nat r 1 hr (by omega)
  rw [Nat.and_one_is_mod] at this
  exact this
theorem take_eq (r b : Nat) (hr : r < 4294967296) (hb : b ≤ 1) : bits .xor .u32 ((r : Int) / 2) (3988292384 * bits .xor .u32 (bits .and .u32 (r : Int) 1) (b : Int) % 4294967296) = (tk r b : Int) := by
  rw [and1_32 r hr, u32_xor_nat _ _ (by omega) (by omega)]
  have hx : (r % 2) ^^^ b ≤ 1 := xor_le1 (by omega) hb
  have hm := mul_le1 hx
  unfold tk
  generalize (r % 2) ^^^ b = x at *
  have e : (3988292384 * (x : Int) % 4294967296) = ((PO * x : Nat) : Int) := by
    unfold PO at *
    omega
  rw [e, show (r : Int) / 2 = ((r / 2 : Nat) : Int) by omega, u32_xor_nat _ _ (by omega) hm]
theorem sum_eq (r : Nat) (hr : r < 4294967296) : bits .xor .u32 IntKind.u32.max (r : Int) = (sm r : Int) := by
  have e : IntKind.u32.max = ((4294967295 : Nat) : Int) := by decide
  rw [e, u32_xor_nat _ _ (by omega) hr]
  rfl

theorem take_any (r b : Nat) (w : World) (hr : r < 4294967296) (hb : b ≤ 1) :
    Calls Try.prog 74 #[.int .u32 (r : Int), .int .u8 (b : Int)] w fun e w' => e = .returned (.int .u32 (tk r b : Int)) ∧ w = w' := by
  have hr' : (r : Int) < 4294967296 := by omega
  have H := Lib.hid (take_eq r b hr hb)
  go_enter Try.func74, Try.ntmps74
  go_wp2
  go_ret
  exact ⟨ret_int H.out, rfl⟩
theorem start_any (w : World) : Calls Try.prog 70 #[] w fun e w' => e = .returned (.int .u32 4294967295) ∧ w = w' := by
  go_enter Try.func70, Try.ntmps70
  go_wp2
  go_ret
  exact ⟨rfl, rfl⟩
theorem sum_any (r : Nat) (w : World) (hr : r < 4294967296) : Calls Try.prog 72 #[.int .u32 (r : Int)] w fun e w' => e = .returned (.int .u32 (sm r : Int)) ∧ w = w' := by
  have H := Lib.hid (sum_eq r hr)
  go_enter Try.func72, Try.ntmps72
  go_wp2
  go_ret
  exact ⟨ret_int H.out, rfl⟩
end Go.Proofs.Ytdfbpaajkpnaeaa
