/- The walk of falseworklaw01.WideAdds. -/
import Derived.Test.YtejbblpgdlanoaaAlive1
import Derived.Test.YtejbblpgdlanoaaRefH
namespace Go.Proofs.Ytejbblpgdlanoaa
open Go.RowKit

theorem far_add {a b : Int} (ha : I a) (hb : I b) : Far (a + b) := by unfold I at *; unfold Far; omega
theorem far_sub2 {a b : Int} (ha : I a) (hb : I b) : Far (a - b) := by unfold I at *; unfold Far; omega

set_option maxHeartbeats 2000000 in
theorem wideAdds_walk (a b : Int) (wa : (Lit.int .i64 a).wf = true) (wb : (Lit.int .i64 b).wf = true) (w : World) :
    Calls Try.prog 3 #[.int .i64 a, .int .i64 b] w fun e w' => e = .returned (.bool true) ∧ Below w.heap.size w w' := by
  have ha := I_of_wf wa
  have hb := I_of_wf wb
  clear wa wb
  have hnb : absI b < 1461501637330902918203684832716283019655932542976 := by have := far_abs (far_I hb); omega
  have P1 := fun w => Lib.hid (plus_any2 a b w (far_I ha) (far_I hb))
  have P2 : ∀ w, Hid (Calls Try.prog 17 #[V a, V (-b)] w fun e w' => e = .returned (V (a - b)) ∧ Made w w') := fun w => by
    rw [Int.sub_eq_add_neg]
    exact plus_any2 a (-b) w (far_I ha) (by have := far_I hb; unfold Far at *; omega)
  have C1 := fun w => Lib.hid (cut_any (a + b) w (far_add ha hb))
  have C2 := fun w => Lib.hid (cut_any (a - b) w (far_sub2 ha hb))
  have C3 := fun w => Lib.hid (cut_any (a * b) w (far_prod ha hb))
  have O1 := fun w => Lib.hid (of_any a w ha)
  have O2 := fun w => Lib.hid (of_any b w hb)
  have N1 := fun w => Lib.hid (neg_any b w hnb)
  have T1 := fun w => Lib.hid (times_any a b w ha hb)
  have A1 := fun w => Lib.hid (add_any a b w ha hb)
  have A2 := fun w => Lib.hid (sub_any a b w ha hb)
  have A3 := fun w => Lib.hid (mul_any a b w ha hb)
  clear ha hb hnb
  generalize a + b = p at *
  generalize a - b = q at *
  generalize a * b = r at *
  go_enter Try.func3, Try.ntmps3
  go_wp2_with fail
  refine (alive_any _).mono ?_
  rintro e w1 ⟨rfl, h1⟩
  go_wp2_with fail
  refine (A1 _).out.mono ?_
  rintro e w2 ⟨rfl, rfl⟩
  go_wp2_with fail
  refine (A2 _).out.mono ?_
  rintro e w2 ⟨rfl, rfl⟩
  go_wp2_with fail
  refine (A3 _).out.mono ?_
  rintro e w2 ⟨rfl, h2⟩
  go_wp2_with fail
  refine (O1 _).out.mono ?_
  rintro e w3 ⟨rfl, h3⟩
  go_wp2_with fail
  refine (O2 _).out.mono ?_
  rintro e w4 ⟨rfl, h4⟩
  go_wp2_with fail
  refine (P1 _).out.mono ?_
  rintro e w5 ⟨rfl, h5⟩
  go_wp2_with fail
  refine (C1 _).out.mono ?_
  rintro e w6 ⟨rfl, h6⟩
  go_wp2_with fail
  refine (O1 _).out.mono ?_
  rintro e w7 ⟨rfl, h7⟩
  go_wp2_with fail
  refine (O2 _).out.mono ?_
  rintro e w8 ⟨rfl, h8⟩
  go_wp2_with fail
  refine (N1 _).out.mono ?_
  rintro e w9 ⟨rfl, h9⟩
  go_wp2_with fail
  refine (P2 _).out.mono ?_
  rintro e w10 ⟨rfl, h10⟩
  go_wp2_with fail
  refine (C2 _).out.mono ?_
  rintro e w11 ⟨rfl, h11⟩
  go_wp2_with fail
  refine (T1 _).out.mono ?_
  rintro e w12 ⟨rfl, h12⟩
  go_wp2_with fail
  refine (C3 _).out.mono ?_
  rintro e w13 ⟨rfl, h13⟩
  go_wp2
  go_ret
  refine ⟨by simp, ?_⟩
  have k3 : ∀ {u v : World}, (∃ X Y, v = (u.alloc X).alloc Y) → Below u.heap.size u v := fun h => by obtain ⟨X, Y, rfl⟩ := h; exact bl_two (Below.refl _ _)
  exact bl_trans (bl_trans (bl_trans (bl_trans (bl_trans (bl_trans (bl_trans (bl_trans (bl_trans (bl_trans (bl_trans (bl_trans h1 h2) (k3 h3)) (k3 h4)) h5.below) h6.below) (k3 h7)) (k3 h8)) (k3 h9)) h10.below) h11.below) h12) h13.below

end Go.Proofs.Ytejbblpgdlanoaa
