/- The walk of falseworklaw03.CivilNames. -/
import Derived.Test.YtfifollmpohcoaaDoorCivG
namespace Go.Proofs.YtfifollmpohcoaaDoor
open Go.RowKit Go.Sort

set_option maxHeartbeats 800000 in
theorem civilNames_walk (w : World) (hL : Lens w) : Calls Tryd.prog 3 #[] w fun e w' => e = .returned (.bool true) ∧ Below w.heap.size w w' := by
  have A : ∀ W, Lens W → Hid (Calls Tryd.prog 10 #[.int .i64 0] W fun e w' => e = .returned (.tuple #[.agg #[.int .i64 1900, .int .i64 1, .int .i64 1], .int .i64 0]) ∧ Gr W w') := fun W h => of_at W h (by decide) (by decide)
  have B : ∀ W, Lens W → Hid (Calls Tryd.prog 10 #[.int .i64 146096] W fun e w' => e = .returned (.tuple #[.agg #[.int .i64 2299, .int .i64 12, .int .i64 31], .int .i64 0]) ∧ Gr W w') := fun W h => of_at W h (by decide) (by decide)
  have C : ∀ W, Hid (Calls Tryd.prog 10 #[.int .i64 146097] W fun e w' => e = .returned (.tuple #[.agg #[.int .i64 0, .int .i64 0, .int .i64 0], .int .i64 31]) ∧ Gr W w') := fun W => of_no 146097 W (by decide)
  have D : ∀ W, Hid (Calls Tryd.prog 10 #[.int .i64 (-1)] W fun e w' => e = .returned (.tuple #[.agg #[.int .i64 0, .int .i64 0, .int .i64 0], .int .i64 31]) ∧ Gr W w') := fun W => of_no (-1) W (by decide)
  have E : ∀ W, Lens W → Hid (Calls Tryd.prog 11 #[.agg #[.int .i64 1900, .int .i64 2, .int .i64 29]] W fun e w' => e = .returned (.tuple #[.int .i64 0, .int .i64 31]) ∧ Gr W w') := fun W h => number_no 1900 2 29 W ⟨by omega, by omega⟩ h (by decide)
  have HL := Lib.hid hL
  clear hL
  go_enter Tryd.func3, Tryd.ntmps3
  go_wp2_with fail
  refine (A _ HL.out).out.mono ?_
  rintro e w1 ⟨rfl, hg1⟩
  have HG1 := Lib.hid hg1
  clear hg1 A
  go_wp2_with fail
  refine (B _ (HL.out.gr (HG1.out.alloc _))).out.mono ?_
  rintro e w2 ⟨rfl, hg2⟩
  obtain ⟨c0, c1, c2⟩ := boxed w1 1900 1 1 23
  have hS : w1.heap.size < (w1.alloc (Obj.cells #[Value.int IntKind.i64 1900, Value.int IntKind.i64 1, Value.int IntKind.i64 1] 23)).heap.size := by simp
  have e0 := gcell hg2 hS c0
  have e1 := gcell hg2 hS c1
  have e2 := gcell hg2 hS c2
  have HS2 := Lib.hid (Nat.lt_of_lt_of_le hS hg2.size)
  have HG2 := Lib.hid ((HG1.out.alloc _).trans hg2)
  clear hg2 c0 c1 c2 hS HG1 B
  go_wp2_with fail
  refine (C _).out.mono ?_
  rintro e w3 ⟨rfl, hg3⟩
  obtain ⟨c0, c1, c2⟩ := boxed w2 2299 12 31 23
  have hS : w2.heap.size < (w2.alloc (Obj.cells #[Value.int IntKind.i64 2299, Value.int IntKind.i64 12, Value.int IntKind.i64 31] 23)).heap.size := by simp
  have g2 := ((Gr.refl w2).alloc (Obj.cells #[Value.int IntKind.i64 2299, Value.int IntKind.i64 12, Value.int IntKind.i64 31] 23)).trans hg3
  have f0 := gcell hg3 hS c0
  have f1 := gcell hg3 hS c1
  have f2 := gcell hg3 hS c2
  have k0 := gcell g2 HS2.out e0
  have k1 := gcell g2 HS2.out e1
  have k2 := gcell g2 HS2.out e2
  have HT3 := Lib.hid (Nat.lt_of_lt_of_le hS hg3.size)
  have HS3 := Lib.hid (Nat.lt_of_lt_of_le HS2.out g2.size)
  have HG3 := Lib.hid (HG2.out.trans g2)
  clear hg3 c0 c1 c2 hS HG2 C e0 e1 e2 HS2 g2
  go_wp2_with fail
  refine (D _).out.mono ?_
  rintro e w4 ⟨rfl, hg4'⟩
  have hg4 := ((Gr.refl w3).alloc _).trans hg4'
  clear hg4'
  have e0 := gcell hg4 HT3.out f0
  have e1 := gcell hg4 HT3.out f1
  have e2 := gcell hg4 HT3.out f2
  have d0 := gcell hg4 HS3.out k0
  have d1 := gcell hg4 HS3.out k1
  have d2 := gcell hg4 HS3.out k2
  have HT4 := Lib.hid (Nat.lt_of_lt_of_le HT3.out hg4.size)
  have HS4 := Lib.hid (Nat.lt_of_lt_of_le HS3.out hg4.size)
  have HG4 := Lib.hid (HG3.out.trans hg4)
  clear hg4 HG3 D f0 f1 f2 k0 k1 k2 HT3 HS3
  go_wp2_with fail
  refine (E _ (HL.out.gr (HG4.out.alloc _))).out.mono ?_
  rintro e w5 ⟨rfl, hg5'⟩
  have hg5 := ((Gr.refl w4).alloc _).trans hg5'
  clear hg5'
  have f0 := gcell hg5 HT4.out e0
  have f1 := gcell hg5 HT4.out e1
  have f2 := gcell hg5 HT4.out e2
  have k0 := gcell hg5 HS4.out d0
  have k1 := gcell hg5 HS4.out d1
  have k2 := gcell hg5 HS4.out d2
  have HT5 := Lib.hid (Nat.lt_of_lt_of_le HT4.out hg5.size)
  have HS5 := Lib.hid (Nat.lt_of_lt_of_le HS4.out hg5.size)
  have HG5 := Lib.hid (HG4.out.trans hg5)
  clear hg5 HG4 E e0 e1 e2 d0 d1 d2 HT4 HS4
  go_wp2_with fail
  refine (alive_any _ (HL.out.gr HG5.out)).mono ?_
  rintro e w6 ⟨rfl, hg6⟩
  have e0 := gcell hg6 HT5.out f0
  have e1 := gcell hg6 HT5.out f1
  have e2 := gcell hg6 HT5.out f2
  have d0 := gcell hg6 HS5.out k0
  have d1 := gcell hg6 HS5.out k1
  have d2 := gcell hg6 HS5.out k2
  have HG6 := Lib.hid (HG5.out.trans hg6)
  clear hg6 HG5 f0 f1 f2 k0 k1 k2 HT5 HS5
  go_wp2
  go_ret
  exact ⟨rfl, HG6.out.below⟩
end Go.Proofs.YtfifollmpohcoaaDoor
