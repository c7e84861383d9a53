/- The walk of falseworklaw01.WideOrders: nil. -/
import Derived.Test.YtejbblpgdlanoaaOrdersA
namespace Go.Proofs.Ytejbblpgdlanoaa
open Go.RowKit
attribute [local go_sem ↓] Go.wp_at_zero Go.wp_at_succ

set_option maxHeartbeats 4000000 in
theorem orders_nil (w : World) :
    Calls Try.prog 6 #[.slice none 0 0, .int .i64 0] w fun e w' => e = .returned (.bool true) ∧ Below w.heap.size w w' := by
  have S0 := fun a c W => Lib.hid (sum_any a [] c W (Or.inl rfl) (by simp) (by simp))
  have A1 := fun w => Lib.hid (add_any 0 0 w (by decide) (by decide))
  have A2 := fun w => Lib.hid (sub_any 0 0 w (by decide) (by decide))
  go_enter Try.func6, Try.ntmps6
  go_wp2_with fail
  refine (alive_any _).mono ?_
  rintro e w1 ⟨rfl, hw1⟩
  go_wp2_with fail
  refine (S0 none 0 _).out.mono ?_
  rintro e w2 ⟨rfl, hw2⟩
  have hB := bl_trans hw1 hw2
  have hz := hB.size
  have HB := Lib.hid hB
  clear hw1 hw2 hB
  go_upto_region 6 with (fail)
  go_region_law (go_simp; refine (S0 _ _ _).out.mono ?_; rintro e w5 ⟨rfl, hw5⟩; go_simp)
  have hB : Below w.heap.size w w5 := by
    refine bl_over ?_ ?_ hw5
    · repeat' (first | (with_reducible exact HB.out) | (with_reducible refine below_drewN ?_ _) | (with_reducible refine Below.drew ?_) | (with_reducible refine Below.alloc ?_ ?_ _) | (simp; done) | (simp; omega) | omega)
    · simp; omega
  go_wp2_with fail
  refine (S0 _ _ _).out.mono ?_
  rintro e w6 ⟨rfl, hw6⟩
  go_wp2_with fail
  refine (S0 _ _ _).out.mono ?_
  rintro e w7 ⟨rfl, hw7⟩
  go_wp2_with fail
  refine (A1 _).out.mono ?_
  rintro e w8 ⟨rfl, rfl⟩
  go_wp2_with fail
  refine (A2 _).out.mono ?_
  rintro e w9 ⟨rfl, rfl⟩
  go_wp2
  go_ret
  exact ⟨by simp, bl_trans (bl_trans hB hw6) hw7⟩

end Go.Proofs.Ytejbblpgdlanoaa
