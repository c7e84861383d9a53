/- falseworklaw01.wideAlive answers true. -/
import Derived.Test.YtaebbfaheaghfaaWide2
import Derived.OpenShut
namespace Go.Proofs.Ytaebbfaheaghfaa
open Go.RowKit

theorem I_of_wf {a : Int} (h : (Lit.int .i64 a).wf = true) : I a := bounds_i64 h

/-- What a walk is told of a slice of integers that came in: it is nil; or it leads to a row of 'cap' cells, the numbers 'zs' (the first 'len' are its elements, the rest its spare room), each fitting its kind. -/
def IsRow (k : IntKind) (w : World) (a : Option Addr) (len cap : Nat) (zs : List Int) : Prop :=
  (a = none ∧ len = 0 ∧ cap = 0 ∧ zs = []) ∨
  ∃ x, a = some x ∧ len ≤ cap ∧ cap ≤ maxLen ∧ zs.length = cap ∧ (∀ i, i < zs.length → w.cell? (x.add i) = some (.int k (zs.getD i 0))) ∧ ∀ n ∈ zs, (Lit.int k n).wf = true

set_option maxHeartbeats 800000 in
theorem alive_any (w : World) :
    Calls Try.prog 9 #[] w fun e w' => e = .returned (.bool true) ∧ Below w.heap.size w w' := by
  go_enter Try.func9, Try.ntmps9
  go_wp2_with fail
  refine (floor_any (-7) 1 2 _ (by decide) (by decide) (by decide)).mono ?_
  rintro e w1 ⟨rfl, hw1⟩
  rw [show flV (-7 * 1) 2 = -4 from by decide, show flE (-7 * 1) 2 = 0 from by decide]
  go_wp2_with fail
  refine (even_any 5 1 2 _ (by decide) (by decide) (by decide)).mono ?_
  rintro e w2 ⟨rfl, hw2⟩
  rw [show evV (5 * 1) 2 = 2 from by decide, show evE (5 * 1) 2 = 0 from by decide]
  go_wp2_with fail
  refine (even_any 7 1 2 _ (by decide) (by decide) (by decide)).mono ?_
  rintro e w3 ⟨rfl, hw3⟩
  rw [show evV (7 * 1) 2 = 4 from by decide, show evE (7 * 1) 2 = 0 from by decide]
  go_wp2
  go_ret
  exact ⟨rfl, bl_trans (bl_trans hw1 hw2) hw3⟩

end Go.Proofs.Ytaebbfaheaghfaa
