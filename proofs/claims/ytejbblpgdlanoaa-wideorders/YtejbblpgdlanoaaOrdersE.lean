/- The walk of falseworklaw01.WideOrders: out of its guard. -/
import Derived.Test.YtejbblpgdlanoaaOrdersA
namespace Go.Proofs.Ytejbblpgdlanoaa
open Go.RowKit

set_option maxHeartbeats 4000000 in
theorem orders_out (a : Option Addr) (len cap : Nat) (t : Int) (w : World) (h : 100 < len ∨ t < 0 ∨ (len : Int) < t) :
    Calls Try.prog 6 #[.slice a len cap, .int .i64 t] w fun e w' => e = .returned (.bool true) ∧ Below w.heap.size w w' := by
  by_cases h1 : 100 < len
  · have d1 : decide ((100 : Int) < (len : Int)) = true := by simp only [decide_eq_true_eq]; omega
    go_enter Try.func6, Try.ntmps6
    go_wp2_with fail
    refine (alive_any _).mono ?_
    rintro e w1 ⟨rfl, hw1⟩
    go_wp2
    go_ret
    exact ⟨rfl, hw1⟩
  · have d1 : decide ((100 : Int) < (len : Int)) = false := by simp only [decide_eq_false_iff_not]; omega
    by_cases h2 : t < 0
    · have d2 : decide (t < 0) = true := by simpa using h2
      go_enter Try.func6, Try.ntmps6
      go_wp2_with fail
      refine (alive_any _).mono ?_
      rintro e w1 ⟨rfl, hw1⟩
      go_wp2
      go_ret
      exact ⟨rfl, hw1⟩
    · have d2 : decide (t < 0) = false := by simpa using h2
      have d3 : decide ((len : Int) < t) = true := by simp only [decide_eq_true_eq]; omega
      have h3 : (len : Int) < t := by omega
      go_enter Try.func6, Try.ntmps6
      go_wp2_with fail
      refine (alive_any _).mono ?_
      rintro e w1 ⟨rfl, hw1⟩
      go_wp2
      go_ret
      exact ⟨rfl, hw1⟩

end Go.Proofs.Ytejbblpgdlanoaa
