/- A number's digits, taken out of its value. -/
import Derived.Test.YtaebbfaheaghfaaRefC
namespace Go.Proofs.Ytaebbfaheaghfaa
open Go.RowKit

theorem field_run (m : Bool) (x : Int) (w : World) : (Instr.field 31 (Nm m x) 1).run Try.prog w = .ok (D x) w := by
  have a3 := Try.isAgg29
  have z3 := Try.sizeOf29
  unfold Instr.field
  simp only [Sem.run_bind, run_underlying Try.underlying31, Result.andThen_ok]
  unfold part
  simp [go_sem, a3, z3, asAgg]
theorem lt_plus1 {a b : Nat} (h : a < b) : a < b + 1 := by omega
theorem lt_plus2 {a b : Nat} (h : a < b) : a < b + 1 + 1 := by omega
theorem lt_plus3 {a b : Nat} (h : a < b) : a < b + 1 + 1 + 1 := by omega
theorem lt_plus4 {a b : Nat} (h : a < b) : a < b + 1 + 1 + 1 + 1 := by omega
theorem lt_plus5 {a b : Nat} (h : a < b) : a < b + 1 + 1 + 1 + 1 + 1 := by omega
theorem lt_plus6 {a b : Nat} (h : a < b) : a < b + 1 + 1 + 1 + 1 + 1 + 1 := by omega
theorem bl_grew {n : Nat} {w w' : World} (h : Below n w w') (hn : n ≤ w'.heap.size) (L : List Obj) : Below n w (grew w' L) := h.trans ((grew_below w' L).mono hn)
end Go.Proofs.Ytaebbfaheaghfaa
