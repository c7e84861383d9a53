/- Package stamp: Span. -/
import Derived.Test.YtdfbpaajkpnaeaaGreatSmM
import Derived.WalkKit
import Derived.IntWalk
namespace Go.Proofs.YtdfbpaajkpnaeaaGreat
set_option maxRecDepth 100000
open Go.RowKit Go.Lib

def spanI (n : Int) : Int := if 0 ≤ n then (spanN n.toNat : Int) else 0
theorem spanI_nat (n : Nat) : spanI (n : Int) = (spanN n : Int) := by unfold spanI; rw [if_pos (by omega), Int.toNat_natCast]
theorem span_any (n : Int) (w : World) : Calls Tryz.prog 58 #[.int .i64 n] w fun e w' => e = .returned (.int .i64 (spanI n)) ∧ w = w' := by
  by_cases h0 : n < 0
  · have d0 : decide (n < 0) = true := by simpa using h0
    have H := Lib.hid (show spanI n = 0 by unfold spanI; rw [if_neg (by omega)])
    clear h0
    go_enter Tryz.func58, Tryz.ntmps58
    go_wp2
    go_ret
    exact ⟨by rw [H.out]; rfl, rfl⟩
  · have d0 : decide (n < 0) = false := by simp; omega
    by_cases h1 : 13515 < n
    · have d1 : decide (13515 < n) = true := by simpa using h1
      have H := Lib.hid (show spanI n = 0 by unfold spanI spanN; rw [if_pos (by omega), if_neg (by omega)]; rfl)
      clear h0 h1
      go_enter Tryz.func58, Tryz.ntmps58
      go_wp2
      go_ret
      exact ⟨by rw [H.out]; rfl, rfl⟩
    · have d1 : decide (13515 < n) = false := by simp; omega
      have H := Lib.hid (show ((max 1 ((n.toNat + 52) / 53) : Nat) : Int) = spanI n by unfold spanI spanN; rw [if_pos (by omega), if_pos (by omega)])
      obtain ⟨k, rfl⟩ : ∃ k : Nat, n = (k : Int) := ⟨n.toNat, by omega⟩
      rw [Int.toNat_natCast] at H
      clear d0
      have d0 : decide ((k : Int) < 0) = false := by simp
      have hk : (k : Int) ≤ 13515 := by omega
      clear h0 h1
      go_enter Tryz.func58, Tryz.ntmps58
      go_wp2
      · go_ret
        exact ⟨by have e := H.out; refine congrArg (fun v => Ending.returned (.int .i64 v)) ?_; omega, rfl⟩
      · go_ret
        exact ⟨by have e := H.out; refine congrArg (fun v => Ending.returned (.int .i64 v)) ?_; omega, rfl⟩
/-- the 'setStamp' of a sector in memory: its last bytes -/
theorem stamp_step {pre : List UInt8} {n i : Nat} (hp : pre.length = 56) (hi : i < 8) (rest : List UInt8) (hr : rest.length = 8) :
    (pre ++ ((le8 8 n).take i ++ rest.drop i)).set (56 + i) (UInt8.ofNat (n / 256 ^ i % 256)) = pre ++ ((le8 8 n).take (i + 1) ++ rest.drop (i + 1)) := by
  have hg : (le8 8 n)[i]? = some (UInt8.ofNat (n / 256 ^ i % 256)) := by
    have : i = 0 ∨ i = 1 ∨ i = 2 ∨ i = 3 ∨ i = 4 ∨ i = 5 ∨ i = 6 ∨ i = 7 := by omega
    rcases this with rfl | rfl | rfl | rfl | rfl | rfl | rfl | rfl <;> simp [le8, Nat.div_div_eq_div_mul]
  have hl : ((le8 8 n).take i).length = i := by rw [List.length_take, le8_len]; omega
  obtain ⟨x, xs, hx⟩ : ∃ x xs, rest.drop i = x :: xs := by
    cases h : rest.drop i with
    | nil => have := congrArg List.length h; simp at this; omega
    | cons x xs => exact ⟨x, xs, rfl⟩
  have hx2 : rest.drop (i + 1) = xs := by rw [← List.drop_drop, hx]; rfl
  rw [List.set_append_right _ _ (by omega), show 56 + i - pre.length = i by omega, List.set_append_right _ _ (by omega), hl, Nat.sub_self, hx, hx2, List.take_add_one, hg]
  simp
end Go.Proofs.YtdfbpaajkpnaeaaGreat
