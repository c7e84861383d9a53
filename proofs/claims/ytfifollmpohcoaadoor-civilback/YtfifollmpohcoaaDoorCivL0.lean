/- The walk of falseworklaw03.CivilBack, its ways. -/
import Derived.Test.YtfifollmpohcoaaDoorCivBox
import Derived.Test.YtfifollmpohcoaaDoorCivG
namespace Go.Proofs.YtfifollmpohcoaaDoor
open Go.RowKit Go.Sort

set_option maxHeartbeats 1000000 in
theorem back_000 (y m d n y1 m1 d1 k y2 m2 d2 : Int) (s : ByteArray) (w : World) (hL : Lens w) (hy : I y)
    (hd : ¬ rightP y m d)
    (N1 : ∀ W, Lens W → Calls Tryd.prog 10 #[.int .i64 n] W fun e w' => e = .returned (.tuple #[.agg #[.int .i64 y1, .int .i64 m1, .int .i64 d1], .int .i64 31]) ∧ Gr W w')
    (N2 : ∀ W, Lens W → Calls Tryd.prog 11 #[.agg #[.int .i64 y1, .int .i64 m1, .int .i64 d1]] W fun e w' => e = .returned (.tuple #[.int .i64 k, .int .i64 31]) ∧ Gr W w')
    (P1 : ∀ W, Lens W → Calls Tryd.prog 25 #[.string s] W fun e w' => e = .returned (.tuple #[.agg #[.int .i64 y2, .int .i64 m2, .int .i64 d2], .int .i64 31]) ∧ Gr W w') :
    Calls Tryd.prog 7 #[.agg #[.int .i64 y, .int .i64 m, .int .i64 d], .int .i64 n, .string s] w fun e w' => e = .returned (.bool true) ∧ Gr w w' := by
  have HL := Lib.hid hL
  have HN1 := Lib.hid N1
  have HN2 := Lib.hid N2
  have HP1 := Lib.hid P1
  have A : ∀ W, Lens W → Hid (Calls Tryd.prog 11 #[.agg #[.int .i64 y, .int .i64 m, .int .i64 d]] W fun e w' => e = .returned (.tuple #[.int .i64 0, .int .i64 31]) ∧ Gr W w') := fun W h => number_no y m d W hy h hd
  have R : ∀ W, Lens W → Hid (Calls Tryd.prog 14 #[.agg #[.int .i64 y, .int .i64 m, .int .i64 d]] W fun e w' => e = .returned (.bool false) ∧ Gr W w') := fun W h => right_no W hy h hd
  clear hL N1 N2 P1 hy hd
  have B0 := Lib.hid (Box.made w y m d)
  have G0 := Lib.hid ((Gr.refl w).alloc (Obj.cells #[Value.int IntKind.i64 y, Value.int IntKind.i64 m, Value.int IntKind.i64 d] 23))
  go_enter Tryd.func7, Tryd.ntmps7
  go_wp2_with fail
  refine (alive_any _ (HL.out.gr G0.out)).mono ?_
  rintro e w1 ⟨rfl, hg1⟩
  have G1 := Lib.hid (G0.out.trans hg1)
  obtain ⟨z1, a1, b1, c1⟩ := B0.out.gr hg1
  have B1 := Lib.hid (show Box w1 w.heap.size y m d from ⟨z1, a1, b1, c1⟩)
  clear hg1 B0 G0
  go_wp2_with fail
  refine (A _ (HL.out.gr G1.out)).out.mono ?_
  rintro e w2 ⟨rfl, hg2⟩
  have G2 := Lib.hid (G1.out.trans hg2)
  obtain ⟨z2, a2, b2, c2⟩ := B1.out.gr hg2
  have B2 := Lib.hid (show Box w2 w.heap.size y m d from ⟨z2, a2, b2, c2⟩)
  clear hg2 B1 G1 z1 a1 b1 c1 A
  go_wp2_with fail
  refine (R _ (HL.out.gr G2.out)).out.mono ?_
  rintro e w3 ⟨rfl, hg3⟩
  have G3 := Lib.hid (G2.out.trans hg3)
  obtain ⟨z3, a3, b3, c3⟩ := B2.out.gr hg3
  have B3 := Lib.hid (show Box w3 w.heap.size y m d from ⟨z3, a3, b3, c3⟩)
  clear hg3 B2 G2 z2 a2 b2 c2 R
  clear z3 a3 b3 c3 B3
  go_wp2_with fail
  refine (HN1.out _ (HL.out.gr G3.out)).mono ?_
  rintro e w7 ⟨rfl, hg7⟩
  have G7 := Lib.hid (G3.out.trans hg7)
  clear hg7 G3 HN1
  go_wp2_with fail
  refine (HN2.out _ (HL.out.gr (G7.out.alloc _))).mono ?_
  rintro e w8 ⟨rfl, hg8⟩
  have G8 := Lib.hid ((G7.out.alloc _).trans hg8)
  clear hg8 G7 HN2
  go_wp2_with fail
  refine (HP1.out _ (HL.out.gr G8.out)).mono ?_
  rintro e w9 ⟨rfl, hg9⟩
  have G9 := Lib.hid (G8.out.trans hg9)
  clear hg9 G8 HP1
  go_wp2
  go_ret
  exact ⟨rfl, G9.out.alloc _⟩

set_option maxHeartbeats 1000000 in
theorem back_001 (y m d n y1 m1 d1 k y2 m2 d2 : Int) (s : ByteArray) (w : World) (hL : Lens w) (hy : I y)
    (hd : ¬ rightP y m d)
    (N1 : ∀ W, Lens W → Calls Tryd.prog 10 #[.int .i64 n] W fun e w' => e = .returned (.tuple #[.agg #[.int .i64 y1, .int .i64 m1, .int .i64 d1], .int .i64 31]) ∧ Gr W w')
    (N2 : ∀ W, Lens W → Calls Tryd.prog 11 #[.agg #[.int .i64 y1, .int .i64 m1, .int .i64 d1]] W fun e w' => e = .returned (.tuple #[.int .i64 k, .int .i64 31]) ∧ Gr W w')
    (P1 : ∀ W, Lens W → Calls Tryd.prog 25 #[.string s] W fun e w' => e = .returned (.tuple #[.agg #[.int .i64 y2, .int .i64 m2, .int .i64 d2], .int .i64 0]) ∧ Gr W w')
    (P2 : ∀ W, Lens W → Calls Tryd.prog 20 #[.agg #[.int .i64 y2, .int .i64 m2, .int .i64 d2]] W fun e w' => e = .returned (.string s) ∧ Gr W w') :
    Calls Tryd.prog 7 #[.agg #[.int .i64 y, .int .i64 m, .int .i64 d], .int .i64 n, .string s] w fun e w' => e = .returned (.bool true) ∧ Gr w w' := by
  have HL := Lib.hid hL
  have HN1 := Lib.hid N1
  have HN2 := Lib.hid N2
  have HP1 := Lib.hid P1
  have HP2 := Lib.hid P2
  have A : ∀ W, Lens W → Hid (Calls Tryd.prog 11 #[.agg #[.int .i64 y, .int .i64 m, .int .i64 d]] W fun e w' => e = .returned (.tuple #[.int .i64 0, .int .i64 31]) ∧ Gr W w') := fun W h => number_no y m d W hy h hd
  have R : ∀ W, Lens W → Hid (Calls Tryd.prog 14 #[.agg #[.int .i64 y, .int .i64 m, .int .i64 d]] W fun e w' => e = .returned (.bool false) ∧ Gr W w') := fun W h => right_no W hy h hd
  clear hL N1 N2 P1 P2 hy hd
  have B0 := Lib.hid (Box.made w y m d)
  have G0 := Lib.hid ((Gr.refl w).alloc (Obj.cells #[Value.int IntKind.i64 y, Value.int IntKind.i64 m, Value.int IntKind.i64 d] 23))
  go_enter Tryd.func7, Tryd.ntmps7
  go_wp2_with fail
  refine (alive_any _ (HL.out.gr G0.out)).mono ?_
  rintro e w1 ⟨rfl, hg1⟩
  have G1 := Lib.hid (G0.out.trans hg1)
  obtain ⟨z1, a1, b1, c1⟩ := B0.out.gr hg1
  have B1 := Lib.hid (show Box w1 w.heap.size y m d from ⟨z1, a1, b1, c1⟩)
  clear hg1 B0 G0
  go_wp2_with fail
  refine (A _ (HL.out.gr G1.out)).out.mono ?_
  rintro e w2 ⟨rfl, hg2⟩
  have G2 := Lib.hid (G1.out.trans hg2)
  obtain ⟨z2, a2, b2, c2⟩ := B1.out.gr hg2
  have B2 := Lib.hid (show Box w2 w.heap.size y m d from ⟨z2, a2, b2, c2⟩)
  clear hg2 B1 G1 z1 a1 b1 c1 A
  go_wp2_with fail
  refine (R _ (HL.out.gr G2.out)).out.mono ?_
  rintro e w3 ⟨rfl, hg3⟩
  have G3 := Lib.hid (G2.out.trans hg3)
  obtain ⟨z3, a3, b3, c3⟩ := B2.out.gr hg3
  have B3 := Lib.hid (show Box w3 w.heap.size y m d from ⟨z3, a3, b3, c3⟩)
  clear hg3 B2 G2 z2 a2 b2 c2 R
  clear z3 a3 b3 c3 B3
  go_wp2_with fail
  refine (HN1.out _ (HL.out.gr G3.out)).mono ?_
  rintro e w7 ⟨rfl, hg7⟩
  have G7 := Lib.hid (G3.out.trans hg7)
  clear hg7 G3 HN1
  go_wp2_with fail
  refine (HN2.out _ (HL.out.gr (G7.out.alloc _))).mono ?_
  rintro e w8 ⟨rfl, hg8⟩
  have G8 := Lib.hid ((G7.out.alloc _).trans hg8)
  clear hg8 G7 HN2
  go_wp2_with fail
  refine (HP1.out _ (HL.out.gr G8.out)).mono ?_
  rintro e w9 ⟨rfl, hg9⟩
  have G9 := Lib.hid (G8.out.trans hg9)
  clear hg9 G8 HP1
  go_wp2_with fail
  refine (HP2.out _ (HL.out.gr (G9.out.alloc _))).mono ?_
  rintro e w10 ⟨rfl, hg10⟩
  have G10 := Lib.hid ((G9.out.alloc _).trans hg10)
  clear hg10 G9 HP2
  go_wp2
  go_ret
  exact ⟨rfl, G10.out⟩

set_option maxHeartbeats 1000000 in
theorem back_010 (y m d n y1 m1 d1 y2 m2 d2 : Int) (s : ByteArray) (w : World) (hL : Lens w) (hy : I y)
    (hd : ¬ rightP y m d)
    (N1 : ∀ W, Lens W → Calls Tryd.prog 10 #[.int .i64 n] W fun e w' => e = .returned (.tuple #[.agg #[.int .i64 y1, .int .i64 m1, .int .i64 d1], .int .i64 0]) ∧ Gr W w')
    (N2 : ∀ W, Lens W → Calls Tryd.prog 11 #[.agg #[.int .i64 y1, .int .i64 m1, .int .i64 d1]] W fun e w' => e = .returned (.tuple #[.int .i64 n, .int .i64 0]) ∧ Gr W w')
    (P1 : ∀ W, Lens W → Calls Tryd.prog 25 #[.string s] W fun e w' => e = .returned (.tuple #[.agg #[.int .i64 y2, .int .i64 m2, .int .i64 d2], .int .i64 31]) ∧ Gr W w') :
    Calls Tryd.prog 7 #[.agg #[.int .i64 y, .int .i64 m, .int .i64 d], .int .i64 n, .string s] w fun e w' => e = .returned (.bool true) ∧ Gr w w' := by
  have HL := Lib.hid hL
  have HN1 := Lib.hid N1
  have HN2 := Lib.hid N2
  have HP1 := Lib.hid P1
  have A : ∀ W, Lens W → Hid (Calls Tryd.prog 11 #[.agg #[.int .i64 y, .int .i64 m, .int .i64 d]] W fun e w' => e = .returned (.tuple #[.int .i64 0, .int .i64 31]) ∧ Gr W w') := fun W h => number_no y m d W hy h hd
  have R : ∀ W, Lens W → Hid (Calls Tryd.prog 14 #[.agg #[.int .i64 y, .int .i64 m, .int .i64 d]] W fun e w' => e = .returned (.bool false) ∧ Gr W w') := fun W h => right_no W hy h hd
  clear hL N1 N2 P1 hy hd
  have B0 := Lib.hid (Box.made w y m d)
  have G0 := Lib.hid ((Gr.refl w).alloc (Obj.cells #[Value.int IntKind.i64 y, Value.int IntKind.i64 m, Value.int IntKind.i64 d] 23))
  go_enter Tryd.func7, Tryd.ntmps7
  go_wp2_with fail
  refine (alive_any _ (HL.out.gr G0.out)).mono ?_
  rintro e w1 ⟨rfl, hg1⟩
  have G1 := Lib.hid (G0.out.trans hg1)
  obtain ⟨z1, a1, b1, c1⟩ := B0.out.gr hg1
  have B1 := Lib.hid (show Box w1 w.heap.size y m d from ⟨z1, a1, b1, c1⟩)
  clear hg1 B0 G0
  go_wp2_with fail
  refine (A _ (HL.out.gr G1.out)).out.mono ?_
  rintro e w2 ⟨rfl, hg2⟩
  have G2 := Lib.hid (G1.out.trans hg2)
  obtain ⟨z2, a2, b2, c2⟩ := B1.out.gr hg2
  have B2 := Lib.hid (show Box w2 w.heap.size y m d from ⟨z2, a2, b2, c2⟩)
  clear hg2 B1 G1 z1 a1 b1 c1 A
  go_wp2_with fail
  refine (R _ (HL.out.gr G2.out)).out.mono ?_
  rintro e w3 ⟨rfl, hg3⟩
  have G3 := Lib.hid (G2.out.trans hg3)
  obtain ⟨z3, a3, b3, c3⟩ := B2.out.gr hg3
  have B3 := Lib.hid (show Box w3 w.heap.size y m d from ⟨z3, a3, b3, c3⟩)
  clear hg3 B2 G2 z2 a2 b2 c2 R
  clear z3 a3 b3 c3 B3
  go_wp2_with fail
  refine (HN1.out _ (HL.out.gr G3.out)).mono ?_
  rintro e w7 ⟨rfl, hg7⟩
  have G7 := Lib.hid (G3.out.trans hg7)
  clear hg7 G3 HN1
  go_wp2_with fail
  refine (HN2.out _ (HL.out.gr (G7.out.alloc _))).mono ?_
  rintro e w8 ⟨rfl, hg8⟩
  have G8 := Lib.hid ((G7.out.alloc _).trans hg8)
  clear hg8 G7 HN2
  go_wp2_with fail
  refine (HP1.out _ (HL.out.gr G8.out)).mono ?_
  rintro e w9 ⟨rfl, hg9⟩
  have G9 := Lib.hid (G8.out.trans hg9)
  clear hg9 G8 HP1
  go_wp2
  go_ret
  exact ⟨rfl, G9.out.alloc _⟩

set_option maxHeartbeats 1000000 in
theorem back_011 (y m d n y1 m1 d1 y2 m2 d2 : Int) (s : ByteArray) (w : World) (hL : Lens w) (hy : I y)
    (hd : ¬ rightP y m d)
    (N1 : ∀ W, Lens W → Calls Tryd.prog 10 #[.int .i64 n] W fun e w' => e = .returned (.tuple #[.agg #[.int .i64 y1, .int .i64 m1, .int .i64 d1], .int .i64 0]) ∧ Gr W w')
    (N2 : ∀ W, Lens W → Calls Tryd.prog 11 #[.agg #[.int .i64 y1, .int .i64 m1, .int .i64 d1]] W fun e w' => e = .returned (.tuple #[.int .i64 n, .int .i64 0]) ∧ Gr W w')
    (P1 : ∀ W, Lens W → Calls Tryd.prog 25 #[.string s] W fun e w' => e = .returned (.tuple #[.agg #[.int .i64 y2, .int .i64 m2, .int .i64 d2], .int .i64 0]) ∧ Gr W w')
    (P2 : ∀ W, Lens W → Calls Tryd.prog 20 #[.agg #[.int .i64 y2, .int .i64 m2, .int .i64 d2]] W fun e w' => e = .returned (.string s) ∧ Gr W w') :
    Calls Tryd.prog 7 #[.agg #[.int .i64 y, .int .i64 m, .int .i64 d], .int .i64 n, .string s] w fun e w' => e = .returned (.bool true) ∧ Gr w w' := by
  have HL := Lib.hid hL
  have HN1 := Lib.hid N1
  have HN2 := Lib.hid N2
  have HP1 := Lib.hid P1
  have HP2 := Lib.hid P2
  have A : ∀ W, Lens W → Hid (Calls Tryd.prog 11 #[.agg #[.int .i64 y, .int .i64 m, .int .i64 d]] W fun e w' => e = .returned (.tuple #[.int .i64 0, .int .i64 31]) ∧ Gr W w') := fun W h => number_no y m d W hy h hd
  have R : ∀ W, Lens W → Hid (Calls Tryd.prog 14 #[.agg #[.int .i64 y, .int .i64 m, .int .i64 d]] W fun e w' => e = .returned (.bool false) ∧ Gr W w') := fun W h => right_no W hy h hd
  clear hL N1 N2 P1 P2 hy hd
  have B0 := Lib.hid (Box.made w y m d)
  have G0 := Lib.hid ((Gr.refl w).alloc (Obj.cells #[Value.int IntKind.i64 y, Value.int IntKind.i64 m, Value.int IntKind.i64 d] 23))
  go_enter Tryd.func7, Tryd.ntmps7
  go_wp2_with fail
  refine (alive_any _ (HL.out.gr G0.out)).mono ?_
  rintro e w1 ⟨rfl, hg1⟩
  have G1 := Lib.hid (G0.out.trans hg1)
  obtain ⟨z1, a1, b1, c1⟩ := B0.out.gr hg1
  have B1 := Lib.hid (show Box w1 w.heap.size y m d from ⟨z1, a1, b1, c1⟩)
  clear hg1 B0 G0
  go_wp2_with fail
  refine (A _ (HL.out.gr G1.out)).out.mono ?_
  rintro e w2 ⟨rfl, hg2⟩
  have G2 := Lib.hid (G1.out.trans hg2)
  obtain ⟨z2, a2, b2, c2⟩ := B1.out.gr hg2
  have B2 := Lib.hid (show Box w2 w.heap.size y m d from ⟨z2, a2, b2, c2⟩)
  clear hg2 B1 G1 z1 a1 b1 c1 A
  go_wp2_with fail
  refine (R _ (HL.out.gr G2.out)).out.mono ?_
  rintro e w3 ⟨rfl, hg3⟩
  have G3 := Lib.hid (G2.out.trans hg3)
  obtain ⟨z3, a3, b3, c3⟩ := B2.out.gr hg3
  have B3 := Lib.hid (show Box w3 w.heap.size y m d from ⟨z3, a3, b3, c3⟩)
  clear hg3 B2 G2 z2 a2 b2 c2 R
  clear z3 a3 b3 c3 B3
  go_wp2_with fail
  refine (HN1.out _ (HL.out.gr G3.out)).mono ?_
  rintro e w7 ⟨rfl, hg7⟩
  have G7 := Lib.hid (G3.out.trans hg7)
  clear hg7 G3 HN1
  go_wp2_with fail
  refine (HN2.out _ (HL.out.gr (G7.out.alloc _))).mono ?_
  rintro e w8 ⟨rfl, hg8⟩
  have G8 := Lib.hid ((G7.out.alloc _).trans hg8)
  clear hg8 G7 HN2
  go_wp2_with fail
  refine (HP1.out _ (HL.out.gr G8.out)).mono ?_
  rintro e w9 ⟨rfl, hg9⟩
  have G9 := Lib.hid (G8.out.trans hg9)
  clear hg9 G8 HP1
  go_wp2_with fail
  refine (HP2.out _ (HL.out.gr (G9.out.alloc _))).mono ?_
  rintro e w10 ⟨rfl, hg10⟩
  have G10 := Lib.hid ((G9.out.alloc _).trans hg10)
  clear hg10 G9 HP2
  go_wp2
  go_ret
  exact ⟨rfl, G10.out⟩

end Go.Proofs.YtfifollmpohcoaaDoor
