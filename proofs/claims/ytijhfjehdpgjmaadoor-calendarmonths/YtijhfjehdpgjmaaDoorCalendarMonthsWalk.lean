/- The walk of falseworklaw04.CalendarMonths. -/
import Derived.Test.YtijhfjehdpgjmaaDoorCalAlive
import Derived.Test.YtijhfjehdpgjmaaDoorCalMonR
namespace Go.Proofs.YtijhfjehdpgjmaaDoor
open Go.RowKit Go.Sort

set_option maxHeartbeats 800000 in
/-- behind both answers, which are the same one -/
theorem law_months_core (y m d n Y M D E : Int) (w : World) (hL : Lens w)
    (B : ∀ W, Lens W → Calls Tryd.prog 14 #[.agg #[.int .i64 y, .int .i64 m, .int .i64 d], .int .i64 n] W fun e w' => e = .returned (.tuple #[.agg #[.int .i64 Y, .int .i64 M, .int .i64 D], .int .i64 E]) ∧ Gr W w')
    (C : ∀ W, Calls Tryd.prog 15 #[.agg #[.int .i64 y, .int .i64 m, .int .i64 d], .int .i64 n] W fun e w' => e = .returned (.tuple #[.agg #[.int .i64 Y, .int .i64 M, .int .i64 D], .int .i64 E]) ∧ Gr W w') :
    Calls Tryd.prog 4 #[.agg #[.int .i64 y, .int .i64 m, .int .i64 d], .int .i64 n] w fun e w' => e = .returned (.bool true) ∧ Gr w w' := by
  have HB := Lib.hid B
  have HC := Lib.hid C
  have HL := Lib.hid hL
  clear hL B C
  have HX := Lib.hid (DBox.made w y m d 32)
  go_enter Tryd.func4, Tryd.ntmps4
  go_wp2_with fail
  refine (alive_any _ (HL.out.gr ((Gr.refl _).alloc _))).mono ?_
  rintro e w1 ⟨rfl, hg1⟩
  have HG1 := Lib.hid (((Gr.refl _).alloc _).trans hg1)
  have HX1 := Lib.hid (HX.out.gr hg1)
  clear hg1 HX
  obtain ⟨_, ⟨c0, c1, c2⟩, _, _, _⟩ := HX1.out
  go_wp2_with fail
  refine (HB.out _ (HL.out.gr HG1.out)).mono ?_
  rintro e w2 ⟨rfl, hg2⟩
  have gA := hg2.alloc (Obj.cells #[Value.int IntKind.i64 Y, Value.int IntKind.i64 M, Value.int IntKind.i64 D] 32)
  have HG2 := Lib.hid (HG1.out.trans gA)
  have HY2 := Lib.hid (DBox.made w2 Y M D 32)
  have HX2 := Lib.hid (HX1.out.gr gA)
  clear hg2 gA c0 c1 c2 HX1 HG1 HB
  obtain ⟨_, ⟨c0, c1, c2⟩, _, _, _⟩ := HX2.out
  go_wp2_with fail
  refine (HC.out _).mono ?_
  rintro e w3 ⟨rfl, hg3⟩
  have gB := hg3.alloc (Obj.cells #[Value.int IntKind.i64 Y, Value.int IntKind.i64 M, Value.int IntKind.i64 D] 32)
  have HG3 := Lib.hid (HG2.out.trans gB)
  obtain ⟨_, ⟨k0, k1, k2⟩, _, _, _⟩ := HY2.out.gr gB
  obtain ⟨_, ⟨q0, q1, q2⟩, _, _, _⟩ := DBox.made w3 Y M D 32
  clear hg3 gB c0 c1 c2 HY2 HX2
  go_wp2
  go_ret
  exact ⟨rfl, HG3.out⟩

theorem calendarMonths_walk (y m d n : Int) (w : World) (hy : I y) (_ : I m) (_ : I d) (_ : I n) (hL : Lens w) : Calls Tryd.prog 4 #[.agg #[.int .i64 y, .int .i64 m, .int .i64 d], .int .i64 n] w fun e w' => e = .returned (.bool true) ∧ Below w.heap.size w w' := by
  by_cases h : okM y m d n
  · exact (law_months_core y m d n _ _ _ 0 w hL (fun W hW => months_yes W hW h) (fun W => rmonths_yes W h)).mono fun e w' ⟨he, hg⟩ => ⟨he, hg.below⟩
  · exact (law_months_core y m d n 0 0 0 31 w hL (fun W hW => months_no W hy hW h) (fun W => rmonths_no W hy h)).mono fun e w' ⟨he, hg⟩ => ⟨he, hg.below⟩
end Go.Proofs.YtijhfjehdpgjmaaDoor
