/- rate.Percent. -/
import Derived.Test.YtgokihclfdkgeaaRtP
namespace Go.Proofs.Ytgokihclfdkgeaa
open Go.RowKit

set_option maxHeartbeats 800000 in
theorem percent_no (n : Int) (w : World) (h : n < 0 ∨ 10000 < n) : Calls Try.prog 13 #[.int .i64 n] w fun r w' => r = .returned (.tuple #[.float .f64 0, .int .i64 51]) ∧ w = w' := by
  by_cases h1 : n < 0
  · go_enter Try.func13, Try.ntmps13
    go_wp2
    go_ret2
    exact ⟨rfl, rfl⟩
  · have h2 : 10000 < n := by omega
    clear h
    go_enter Try.func13, Try.ntmps13
    go_wp2
    go_ret2
    exact ⟨rfl, rfl⟩

/-- a hundredth of as many points -/
def pcW (n : Nat) : Option Nat := floatBits .quo .f64 (floatOfInt .f64 (n : Int)) 4636737291354636288
def pcOk (n : Nat) : Bool := match pcW n with
  | some r => decide (r ≤ W100) && pts r == n
  | none => false
set_option maxRecDepth 100000 in
theorem pc_all : ∀ a : Fin 101, ∀ b : Fin 100, decide (100 * a.val + b.val ≤ 10000) = true → pcOk (100 * a.val + b.val) = true := by decide +kernel
theorem pc_yes (n : Nat) (h : n ≤ 10000) : ∃ r, pcW n = some r ∧ r ≤ W100 ∧ pts r = n := by
  have h1 := pc_all ⟨n / 100, by omega⟩ ⟨n % 100, by omega⟩ (by simp; omega)
  have e : 100 * (n / 100) + n % 100 = n := by omega
  simp only [e] at h1
  unfold pcOk at h1
  split at h1
  · rename_i r hr
    rw [Bool.and_eq_true] at h1
    exact ⟨r, hr, by simpa using h1.1, by simpa using h1.2⟩
  · cases h1

set_option maxHeartbeats 800000 in
theorem percent_yes (n r : Nat) (w : World) (h : n ≤ 10000) (hr : pcW n = some r) : Calls Try.prog 13 #[.int .i64 (n : Int)] w fun e w' => e = .returned (.tuple #[.float .f64 r, .int .i64 0]) ∧ w = w' := by
  have q : ∀ W t, (binOp .quo t (.float .f64 (floatOfInt .f64 (n : Int))) (.float .f64 4636737291354636288)).run Try.prog W = .ok (.float .f64 r) W := fun W t => run_float_arith W .quo t .f64 _ _ r hr
  have HR := Lib.hid hr
  clear hr
  have d1 : decide ((n : Int) < 0) = false := by simp
  have d2 : decide (10000 < (n : Int)) = false := by simp; omega
  go_enter Try.func13, Try.ntmps13
  go_wp2
  go_ret2
  exact ⟨rfl, rfl⟩
end Go.Proofs.Ytgokihclfdkgeaa
