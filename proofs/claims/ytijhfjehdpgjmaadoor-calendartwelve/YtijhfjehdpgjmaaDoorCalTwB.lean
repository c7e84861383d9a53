/- The walk of falseworklaw04.CalendarTwelve: where a step has no date. -/
import Derived.Test.YtijhfjehdpgjmaaDoorCalTwA
namespace Go.Proofs.YtijhfjehdpgjmaaDoor
open Go.RowKit Go.Sort

set_option maxHeartbeats 3200000 in
theorem law_twelve_err (y m d p q Y1 M1 D1 Y2 M2 D2 Y3 M3 D3 e1 e2 e3 : Int) (w : World) (hL : Lens w) (hR : rightP y m d) (hp : -2000 ≤ p ∧ p ≤ 2000) (hq : -2000 ≤ q ∧ q ≤ 2000) (hd : d ≤ 28 ∨ d = lenF y m)
    (B1 : ∀ W, Lens W → Calls Tryd.prog 14 #[.agg #[.int .i64 y, .int .i64 m, .int .i64 d], .int .i64 p] W fun e w' => e = .returned (.tuple #[.agg #[.int .i64 Y1, .int .i64 M1, .int .i64 D1], .int .i64 e1]) ∧ Gr W w')
    (B2 : ∀ W, Lens W → Calls Tryd.prog 14 #[.agg #[.int .i64 Y1, .int .i64 M1, .int .i64 D1], .int .i64 q] W fun e w' => e = .returned (.tuple #[.agg #[.int .i64 Y2, .int .i64 M2, .int .i64 D2], .int .i64 e2]) ∧ Gr W w')
    (B3 : ∀ W, Lens W → Calls Tryd.prog 14 #[.agg #[.int .i64 y, .int .i64 m, .int .i64 d], .int .i64 (p + q)] W fun e w' => e = .returned (.tuple #[.agg #[.int .i64 Y3, .int .i64 M3, .int .i64 D3], .int .i64 e3]) ∧ Gr W w') (hno : e1 ≠ 0 ∨ e2 ≠ 0 ∨ e3 ≠ 0) :
    Calls Tryd.prog 8 #[.agg #[.int .i64 y, .int .i64 m, .int .i64 d], .int .i64 p, .int .i64 q] w fun e w' => e = .returned (.bool true) ∧ Gr w w' := by
  have hy : I y := ⟨by have := hR.1; omega, by have := hR.2.1; omega⟩
  have A : ∀ W, Lens W → Hid (Calls Tryd.prog 10 #[] W fun e w' => e = .returned (.bool true) ∧ Gr W w') := fun W h => alive_any W h
  have R : Hid (∀ W, Calls Tryd.prog 26 #[.agg #[.int .i64 y, .int .i64 m, .int .i64 d]] W fun e w' => e = .returned (.bool true) ∧ Gr W w') := Lib.hid fun W => rright_yes W hy hR
  have LM : ∀ W, Hid (Calls Tryd.prog 27 #[.int .i64 y, .int .i64 m] W fun e w' => e = .returned (.int .i64 (lenF y m)) ∧ W = w') := fun W => rlength_any y m W hy
  have HL := Lib.hid hL
  have HB1 := Lib.hid B1
  have HB2 := Lib.hid B2
  have HB3 := Lib.hid B3
  clear hL hy hR B1 B2 B3
  generalize lenF y m = L at *
  have HX := Lib.hid (DBox.made w y m d 32)
  have dp1 : decide (p < -2000) = false := by simp only [decide_eq_false_iff_not]; omega
  have dp2 : decide (2000 < p) = false := by simp only [decide_eq_false_iff_not]; omega
  have dq1 : decide (q < -2000) = false := by simp only [decide_eq_false_iff_not]; omega
  have dq2 : decide (2000 < q) = false := by simp only [decide_eq_false_iff_not]; omega
  obtain ⟨p1, p2⟩ := hp
  obtain ⟨q1, q2⟩ := hq
  go_enter Tryd.func8, Tryd.ntmps8
  go_wp2_with fail
  refine (A _ (HL.out.gr ((Gr.refl _).alloc _))).out.mono ?_
  rintro e w1 ⟨rfl, hg1⟩
  have HG1 := Lib.hid (((Gr.refl _).alloc _).trans hg1)
  have HX1 := Lib.hid (HX.out.gr hg1)
  obtain ⟨z3, ⟨a3, b3, c3⟩, _, _, _⟩ := HX1.out
  clear hg1 HX A
  have mixed := mixedT
  have f0 := fun n os => cell_grown (a := ⟨w.heap.size, 0, none⟩) z3 a3 n os
  have f1 := fun n os => cell_grown (a := ⟨w.heap.size, 1, none⟩) z3 b3 n os
  have f2 := fun n os => cell_grown (a := ⟨w.heap.size, 2, none⟩) z3 c3 n os
  clear a3 b3 c3
  by_cases c6 : 28 < d
  · have d6 : decide (28 < d) = true := by simpa using c6
    have hdl : (d == L) = true := by simp; omega
    have HDL := Lib.hid (show d = L by omega)
    clear hd
    go_wp2_with fail
    with_reducible refine wp_region_quiet_grown (by assumption) (by kernel_rfl) ?_
    repeat (with_reducible refine wpQuiet_step (fun K hK => ?_); go_simp; first | (with_reducible refine hK _ ?_; clear hK K) | (rw [if_neg (by decide)]; with_reducible refine hK _ ?_; clear hK K) | (with_reducible apply Exists.intro; with_reducible refine ⟨fun _ => ?_, hK _ ?_⟩; (first | (go_at_call 26; with_reducible exact Calls.gr_of (R.out _)) | (go_at_call 27; with_reducible exact Calls.gr_of_same (LM _).out)); clear hK K))
    with_reducible refine wpQuiet_nil ?_
    intro _ hw'
    obtain ⟨⟨nq, osq⟩, hw''⟩ := hw'
    subst hw''
    have gq := (Gr.refl w1).grow nq osq
    have HX3 := Lib.hid (HX1.out.gr gq)
    have HG3 := Lib.hid (HG1.out.trans gq)
    clear gq HX1 HG1 f0 f1 f2 R z3
    generalize grow (w1.drewN nq) osq = W3 at *
    obtain ⟨_, ⟨x0, x1, x2⟩, _, _, _⟩ := HX3.out
    go_wp2_with fail
    refine (HB1.out _ (HL.out.gr HG3.out)).mono ?_
    rintro e w4 ⟨rfl, hg4⟩
    have gA := hg4.alloc (Obj.cells #[Value.int IntKind.i64 Y1, Value.int IntKind.i64 M1, Value.int IntKind.i64 D1] 32)
    have HX4 := Lib.hid (HX3.out.gr gA)
    have HP4 := Lib.hid (DBox.made w4 Y1 M1 D1 32)
    have HG4 := Lib.hid (HG3.out.trans gA)
    clear gA hg4 HX3 HG3 HB1 x0 x1 x2
    obtain ⟨_, ⟨x0, x1, x2⟩, _, _, _⟩ := HX4.out
    obtain ⟨_, ⟨a0, a1, a2⟩, _, _, _⟩ := HP4.out
    go_wp2_with fail
    generalize w4.heap.size = b1 at *
    generalize w4.alloc (Obj.cells #[Value.int IntKind.i64 Y1, Value.int IntKind.i64 M1, Value.int IntKind.i64 D1] 32) = W4 at *
    refine (HB2.out _ (HL.out.gr HG4.out)).mono ?_
    rintro e w5 ⟨rfl, hg5⟩
    have gA := hg5.alloc (Obj.cells #[Value.int IntKind.i64 Y2, Value.int IntKind.i64 M2, Value.int IntKind.i64 D2] 32)
    have HX5 := Lib.hid (HX4.out.gr gA)
    have HP5 := Lib.hid (HP4.out.gr gA)
    have HQ5 := Lib.hid (DBox.made w5 Y2 M2 D2 32)
    have HG5 := Lib.hid (HG4.out.trans gA)
    clear gA hg5 HX4 HP4 HG4 HB2 x0 x1 x2 a0 a1 a2
    obtain ⟨_, ⟨x0, x1, x2⟩, _, _, _⟩ := HX5.out
    go_wp2_with fail
    generalize w5.heap.size = b2 at *
    generalize w5.alloc (Obj.cells #[Value.int IntKind.i64 Y2, Value.int IntKind.i64 M2, Value.int IntKind.i64 D2] 32) = W5 at *
    refine (HB3.out _ (HL.out.gr HG5.out)).mono ?_
    rintro e w6 ⟨rfl, hg6⟩
    have gA := hg6.alloc (Obj.cells #[Value.int IntKind.i64 Y3, Value.int IntKind.i64 M3, Value.int IntKind.i64 D3] 32)
    have HX6 := Lib.hid (HX5.out.gr gA)
    have HP6 := Lib.hid (HP5.out.gr gA)
    have HQ6 := Lib.hid (HQ5.out.gr gA)
    have HS6 := Lib.hid (DBox.made w6 Y3 M3 D3 32)
    have HG6 := Lib.hid (HG5.out.trans gA)
    clear gA hg6 HX5 HP5 HQ5 HG5 HB3 x0 x1 x2
    by_cases c8 : e1 = 0
    · subst c8
      by_cases c9 : e2 = 0
      · subst c9
        have c10 : ¬ e3 = 0 := by omega
        go_wp2
        go_ret
        exact ⟨rfl, HG6.out⟩
      · go_wp2
        go_ret
        exact ⟨rfl, HG6.out⟩
    · go_wp2
      go_ret
      exact ⟨rfl, HG6.out⟩
  · have d6 : decide (28 < d) = false := by simpa using c6
    clear hd
    go_wp2_with fail
    with_reducible refine wp_region_quiet_grown (by assumption) (by kernel_rfl) ?_
    repeat (with_reducible refine wpQuiet_step (fun K hK => ?_); go_simp; first | (with_reducible refine hK _ ?_; clear hK K) | (rw [if_neg (by decide)]; with_reducible refine hK _ ?_; clear hK K) | (with_reducible apply Exists.intro; with_reducible refine ⟨fun _ => ?_, hK _ ?_⟩; (go_at_call 26; with_reducible exact Calls.gr_of (R.out _)); clear hK K))
    with_reducible refine wpQuiet_nil ?_
    intro _ hw'
    obtain ⟨⟨nq, osq⟩, hw''⟩ := hw'
    subst hw''
    have gq := (Gr.refl w1).grow nq osq
    have HX3 := Lib.hid (HX1.out.gr gq)
    have HG3 := Lib.hid (HG1.out.trans gq)
    clear gq HX1 HG1 f0 f1 f2 R z3
    generalize grow (w1.drewN nq) osq = W3 at *
    obtain ⟨_, ⟨x0, x1, x2⟩, _, _, _⟩ := HX3.out
    go_wp2_with fail
    refine (HB1.out _ (HL.out.gr HG3.out)).mono ?_
    rintro e w4 ⟨rfl, hg4⟩
    have gA := hg4.alloc (Obj.cells #[Value.int IntKind.i64 Y1, Value.int IntKind.i64 M1, Value.int IntKind.i64 D1] 32)
    have HX4 := Lib.hid (HX3.out.gr gA)
    have HP4 := Lib.hid (DBox.made w4 Y1 M1 D1 32)
    have HG4 := Lib.hid (HG3.out.trans gA)
    clear gA hg4 HX3 HG3 HB1 x0 x1 x2
    obtain ⟨_, ⟨x0, x1, x2⟩, _, _, _⟩ := HX4.out
    obtain ⟨_, ⟨a0, a1, a2⟩, _, _, _⟩ := HP4.out
    go_wp2_with fail
    generalize w4.heap.size = b1 at *
    generalize w4.alloc (Obj.cells #[Value.int IntKind.i64 Y1, Value.int IntKind.i64 M1, Value.int IntKind.i64 D1] 32) = W4 at *
    refine (HB2.out _ (HL.out.gr HG4.out)).mono ?_
    rintro e w5 ⟨rfl, hg5⟩
    have gA := hg5.alloc (Obj.cells #[Value.int IntKind.i64 Y2, Value.int IntKind.i64 M2, Value.int IntKind.i64 D2] 32)
    have HX5 := Lib.hid (HX4.out.gr gA)
    have HP5 := Lib.hid (HP4.out.gr gA)
    have HQ5 := Lib.hid (DBox.made w5 Y2 M2 D2 32)
    have HG5 := Lib.hid (HG4.out.trans gA)
    clear gA hg5 HX4 HP4 HG4 HB2 x0 x1 x2 a0 a1 a2
    obtain ⟨_, ⟨x0, x1, x2⟩, _, _, _⟩ := HX5.out
    go_wp2_with fail
    generalize w5.heap.size = b2 at *
    generalize w5.alloc (Obj.cells #[Value.int IntKind.i64 Y2, Value.int IntKind.i64 M2, Value.int IntKind.i64 D2] 32) = W5 at *
    refine (HB3.out _ (HL.out.gr HG5.out)).mono ?_
    rintro e w6 ⟨rfl, hg6⟩
    have gA := hg6.alloc (Obj.cells #[Value.int IntKind.i64 Y3, Value.int IntKind.i64 M3, Value.int IntKind.i64 D3] 32)
    have HX6 := Lib.hid (HX5.out.gr gA)
    have HP6 := Lib.hid (HP5.out.gr gA)
    have HQ6 := Lib.hid (HQ5.out.gr gA)
    have HS6 := Lib.hid (DBox.made w6 Y3 M3 D3 32)
    have HG6 := Lib.hid (HG5.out.trans gA)
    clear gA hg6 HX5 HP5 HQ5 HG5 HB3 x0 x1 x2
    by_cases c8 : e1 = 0
    · subst c8
      by_cases c9 : e2 = 0
      · subst c9
        have c10 : ¬ e3 = 0 := by omega
        go_wp2
        go_ret
        exact ⟨rfl, HG6.out⟩
      · go_wp2
        go_ret
        exact ⟨rfl, HG6.out⟩
    · go_wp2
      go_ret
      exact ⟨rfl, HG6.out⟩
end Go.Proofs.YtijhfjehdpgjmaaDoor
