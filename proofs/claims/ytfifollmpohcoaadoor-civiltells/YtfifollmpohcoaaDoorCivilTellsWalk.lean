/- The walk of falseworklaw03.CivilTells. -/
import Derived.Test.YtfifollmpohcoaaDoorCivBox
import Derived.Test.YtfifollmpohcoaaDoorCivG
import Derived.Test.YtfifollmpohcoaaDoorCivM
namespace Go.Proofs.YtfifollmpohcoaaDoor
open Go.RowKit Go.Sort

set_option maxHeartbeats 1000000 in
theorem tells_core (y m d n er : Int) (r : Bool) (tx : ByteArray) (w : World) (hL : Lens w) (hy : I y)
    (A : ∀ W, Lens W → Calls Tryd.prog 11 #[.agg #[.int .i64 y, .int .i64 m, .int .i64 d]] W fun e w' => e = .returned (.tuple #[.int .i64 n, .int .i64 er]) ∧ Gr W w')
    (B : ∀ W, Calls Tryd.prog 13 #[.agg #[.int .i64 y, .int .i64 m, .int .i64 d]] W fun e w' => e = .returned (.tuple #[.int .i64 n, .int .i64 er]) ∧ Gr W w')
    (R : ∀ W, Lens W → Calls Tryd.prog 14 #[.agg #[.int .i64 y, .int .i64 m, .int .i64 d]] W fun e w' => e = .returned (.bool r) ∧ Gr W w')
    (S : ∀ W, Calls Tryd.prog 15 #[.agg #[.int .i64 y, .int .i64 m, .int .i64 d]] W fun e w' => e = .returned (.bool r) ∧ Gr W w')
    (T : ∀ W, Lens W → Calls Tryd.prog 20 #[.agg #[.int .i64 y, .int .i64 m, .int .i64 d]] W fun e w' => e = .returned (.string tx) ∧ Gr W w')
    (U : ∀ W, Calls Tryd.prog 21 #[.agg #[.int .i64 y, .int .i64 m, .int .i64 d]] W fun e w' => e = .returned (.string tx) ∧ Gr W w') :
    Calls Tryd.prog 4 #[.agg #[.int .i64 y, .int .i64 m, .int .i64 d]] w fun e w' => e = .returned (.bool true) ∧ Gr w w' := by
  have HL := Lib.hid hL
  have HA := Lib.hid A
  have HB := Lib.hid B
  have HR := Lib.hid R
  have HS := Lib.hid S
  have HT := Lib.hid T
  have HU := Lib.hid U
  have LP : ∀ W, Hid (Calls Tryd.prog 16 #[.int .i64 y] W fun e w' => e = .returned (.bool (decide (leapP y))) ∧ W = w') := fun W => leap_any y W hy
  have LR : ∀ W, Hid (Calls Tryd.prog 17 #[.int .i64 y] W fun e w' => e = .returned (.bool (decide (leapP y))) ∧ W = w') := fun W => rleap_any y W hy
  have LN : ∀ W, Lens W → Hid (Calls Tryd.prog 18 #[.int .i64 y, .int .i64 m] W fun e w' => e = .returned (.int .i64 (lenF y m)) ∧ W = w') := fun W h => length_any y m W hy h
  have LM : ∀ W, Hid (Calls Tryd.prog 19 #[.int .i64 y, .int .i64 m] W fun e w' => e = .returned (.int .i64 (lenF y m)) ∧ W = w') := fun W => rlength_any y m W hy
  clear hL A B R S T U hy
  generalize decide (leapP y) = lp at *
  generalize lenF y m = ln at *
  have B0 := Lib.hid (Box.made w y m d)
  have G0 := Lib.hid ((Gr.refl w).alloc (Obj.cells #[Value.int IntKind.i64 y, Value.int IntKind.i64 m, Value.int IntKind.i64 d] 23))
  go_enter Tryd.func4, Tryd.ntmps4
  go_wp2_with fail
  refine (alive_any _ (HL.out.gr G0.out)).mono ?_
  rintro e w1 ⟨rfl, hg1⟩
  have G1 := Lib.hid (G0.out.trans hg1)
  obtain ⟨z1, a1, b1, c1⟩ := B0.out.gr hg1
  have B1 := Lib.hid (show Box w1 w.heap.size y m d from ⟨z1, a1, b1, c1⟩)
  clear hg1 B0 G0
  go_wp2_with fail
  refine (HA.out _ (HL.out.gr G1.out)).mono ?_
  rintro e w2 ⟨rfl, hg2⟩
  have G2 := Lib.hid (G1.out.trans hg2)
  obtain ⟨z2, a2, b2, c2⟩ := B1.out.gr hg2
  have B2 := Lib.hid (show Box w2 w.heap.size y m d from ⟨z2, a2, b2, c2⟩)
  clear hg2 B1 G1 z1 a1 b1 c1 HA
  go_wp2_with fail
  refine (HB.out _).mono ?_
  rintro e w3 ⟨rfl, hg3⟩
  have G3 := Lib.hid (G2.out.trans hg3)
  obtain ⟨z3, a3, b3, c3⟩ := B2.out.gr hg3
  have B3 := Lib.hid (show Box w3 w.heap.size y m d from ⟨z3, a3, b3, c3⟩)
  clear hg3 B2 G2 z2 a2 b2 c2 HB
  have mixed := mixedT
  have f0 := fun n os => cell_grown (a := ⟨w.heap.size, 0, none⟩) z3 a3 n os
  have f1 := fun n os => cell_grown (a := ⟨w.heap.size, 1, none⟩) z3 b3 n os
  have f2 := fun n os => cell_grown (a := ⟨w.heap.size, 2, none⟩) z3 c3 n os
  have HLg := Lib.hid (show ∀ n os, Lens (grow (w3.drewN n) os) from fun n os => HL.out.gr (G3.out.grow n os))
  clear a3 b3 c3 B3
  go_wp2_with fail
  go_quiet_grown (first
    | (go_at_call 14; with_reducible exact Calls.gr_of (HR.out _ (HLg.out _ _)))
    | (go_at_call 15; with_reducible exact Calls.gr_of (HS.out _))
    | (go_at_call 16; with_reducible exact Calls.gr_of_same (LP _).out)
    | (go_at_call 17; with_reducible exact Calls.gr_of_same (LR _).out)
    | (go_at_call 18; with_reducible exact Calls.gr_of_same (LN _ (HLg.out _ _)).out)
    | (go_at_call 19; with_reducible exact Calls.gr_of_same (LM _).out)
    | (go_at_call 20; with_reducible exact Calls.gr_of (HT.out _ (HLg.out _ _)))
    | (go_at_call 21; with_reducible exact Calls.gr_of (HU.out _)))
  go_wp2
  go_ret
  exact ⟨rfl, G3.out.grow _ _⟩

theorem civilTells_walk (y m d : Int) (w : World) (hy : I y) (_hm : I m) (_hd : I d) (hL : Lens w) : Calls Tryd.prog 4 #[.agg #[.int .i64 y, .int .i64 m, .int .i64 d]] w fun e w' => e = .returned (.bool true) ∧ Below w.heap.size w w' := by
  by_cases hr : rightP y m d
  · exact (tells_core y m d (numF y m d) 0 true (textB y m d) w hL hy (fun W h => number_yes y m d W h hr) (fun W => rnumber_yes y m d W hr) (fun W h => right_yes W hy h hr) (fun W => rright_yes W hy hr) (fun W h => text_yes y m d W h hr) (fun W => rtext_yes y m d W hr)).mono fun e w' ⟨he, hg⟩ => ⟨he, hg.below⟩
  · exact (tells_core y m d 0 31 false ⟨#[]⟩ w hL hy (fun W h => number_no y m d W hy h hr) (fun W => rnumber_no y m d W hy hr) (fun W h => right_no W hy h hr) (fun W => rright_no W hy hr) (fun W h => text_no y m d W hy h hr) (fun W => rtext_no y m d W hy hr)).mono fun e w' ⟨he, hg⟩ => ⟨he, hg.below⟩
end Go.Proofs.YtfifollmpohcoaaDoor
