/- The walk of falseworklaw01.WideNames. -/
import Derived.Test.YtkdjoiahjenadaaAlive1
import Derived.Test.YtkdjoiahjenadaaRowz
namespace Go.Proofs.Ytkdjoiahjenadaa
open Go.RowKit

theorem row3 (w : World) (x y z : Int) (t : TypeId) : RowAt .i64 (w.alloc (.cells #[.int .i64 x, .int .i64 y, .int .i64 z] t)) (some ⟨w.heap.size, 0, none⟩) [x, y, z] := by
  refine Or.inr ⟨w.heap.size, 0, rfl, by simp, fun i hi => ?_⟩
  have : i = 0 ∨ i = 1 ∨ i = 2 := by simp at hi; omega
  rcases this with rfl | rfl | rfl <;> simp

set_option maxHeartbeats 1000000 in
theorem wideNames_walk (w : World) :
    Calls Try.prog 3 #[] w fun e w' => e = .returned (.bool true) ∧ Below w.heap.size w w' := by
  go_enter Try.func3, Try.ntmps3
  go_wp2_with fail
  refine (add_any 9223372036854775807 1 _ (by decide) (by decide)).mono ?_
  rintro e w1 ⟨rfl, rfl⟩
  rw [show cutE (9223372036854775807 + 1) = 11 from by decide]
  go_wp2_with fail
  refine (floor_any 1 1 0 _ (by decide) (by decide) (by decide)).mono ?_
  rintro e w2 ⟨rfl, hw2⟩
  rw [show flE (1 * 1) 0 = 12 from by decide]
  go_wp2_with fail
  refine (sum_any (some ⟨w2.heap.size, 0, none⟩) [9223372036854775807, 9223372036854775807, -9223372036854775807] 3 _ (row3 w2 _ _ _ _) (by decide) (by decide)).mono ?_
  rintro e w3 ⟨rfl, hw3⟩
  rw [show cutV (List.sum [9223372036854775807, 9223372036854775807, -9223372036854775807]) = 9223372036854775807 from by decide, show cutE (List.sum [9223372036854775807, 9223372036854775807, -9223372036854775807]) = 0 from by decide]
  go_wp2_with fail
  refine (mul_any (-9223372036854775808) (-1) _ (by decide) (by decide)).mono ?_
  rintro e w4 ⟨rfl, hw4⟩
  rw [show cutE (-9223372036854775808 * -1) = 11 from by decide]
  go_wp2_with fail
  refine (alive_any _).mono ?_
  rintro e w5 ⟨rfl, hw5⟩
  go_wp2
  go_ret
  exact ⟨rfl, bl_trans (bl_trans (bl_trans hw2 (bl_one hw3)) hw4) hw5⟩
end Go.Proofs.Ytkdjoiahjenadaa
