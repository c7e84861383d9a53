/- Right, newYear, Number, Weekday, of the program and of the document's answer. -/
import Derived.Test.YtijhfjehdpgjmaaDoorCivA
namespace Go.Proofs.YtijhfjehdpgjmaaDoor
open Go.RowKit Go.Sort

/-- a date as a value -/
def dv (y m d : Int) : Value := .agg #[.int .i64 y, .int .i64 m, .int .i64 d]

theorem mixedT : Tryd.prog.follows .mixedOrders = true := by kernel_rfl
/-- a date's cells, where a call lays its argument -/
theorem boxed (w : World) (y m d : Int) (t : TypeId) : (w.alloc (Obj.cells #[Value.int IntKind.i64 y, Value.int IntKind.i64 m, Value.int IntKind.i64 d] t)).cell? ⟨w.heap.size, 0, none⟩ = some (.int .i64 y) ∧ (w.alloc (Obj.cells #[Value.int IntKind.i64 y, Value.int IntKind.i64 m, Value.int IntKind.i64 d] t)).cell? ⟨w.heap.size, 1, none⟩ = some (.int .i64 m) ∧ (w.alloc (Obj.cells #[Value.int IntKind.i64 y, Value.int IntKind.i64 m, Value.int IntKind.i64 d] t)).cell? ⟨w.heap.size, 2, none⟩ = some (.int .i64 d) := by
  refine ⟨?_, ?_, ?_⟩ <;> simp [go_sem]

set_option maxHeartbeats 400000 in
theorem right_any (y m d : Int) (w : World) (hy : I y) (hL : Lens w) : Calls Tryd.prog 30 #[.agg #[.int .i64 y, .int .i64 m, .int .i64 d]] w fun e w' => e = .returned (.bool (decide (rightP y m d))) ∧ Gr w w' := by
  have C : ∀ W, Lens W → Hid (Calls Tryd.prog 31 #[.int .i64 y, .int .i64 m] W fun e w' => e = .returned (.int .i64 (lenF y m)) ∧ W = w') := fun W h => length_any y m W hy h
  have HL := Lib.hid hL
  have HM := Lib.hid (lenF_out y m)
  clear hL hy
  by_cases h1 : y < 1900
  · go_enter Tryd.func30, Tryd.ntmps30
    go_wp2
    go_ret
    exact ⟨ret_bool (by symm; rw [decide_eq_false_iff_not]; unfold rightP; omega), (Gr.refl _).alloc _⟩
  by_cases h2 : 2299 < y
  · go_enter Tryd.func30, Tryd.ntmps30
    go_wp2
    go_ret
    exact ⟨ret_bool (by symm; rw [decide_eq_false_iff_not]; unfold rightP; omega), (Gr.refl _).alloc _⟩
  obtain ⟨c0, c1, c2⟩ := boxed w y m d 32
  have hG := Lib.hid ((Gr.refl w).alloc (Obj.cells #[Value.int IntKind.i64 y, Value.int IntKind.i64 m, Value.int IntKind.i64 d] 32))
  have h12 : decide (y < 1900) = false := by simp only [decide_eq_false_iff_not]; omega
  go_enter Tryd.func30, Tryd.ntmps30
  go_wp2
  generalize w.alloc (Obj.cells #[Value.int IntKind.i64 y, Value.int IntKind.i64 m, Value.int IntKind.i64 d] 32) = W at *
  have hL1 : ∀ n, Hid (Lens (W.drewN n)) := fun n => Lib.hid (HL.out.gr (hG.out.drewN n))
  have HC : ∀ n, Hid (Calls Tryd.prog 31 #[.int .i64 y, .int .i64 m] (W.drewN n) fun e w' => e = .returned (.int .i64 (lenF y m)) ∧ W.drewN n = w') := fun n => C _ (hL1 n).out
  clear C hL1
  by_cases h3 : d < 1
  · have d3 : decide (1 ≤ d) = false := by simp only [decide_eq_false_iff_not]; omega
    clear HC
    first | go_region | fail
    go_wp2
    go_ret
    exact ⟨ret_bool (by symm; rw [decide_eq_false_iff_not]; unfold rightP; omega), hG.out.drew⟩
  have d3 : decide (1 ≤ d) = true := by simp only [decide_eq_true_eq]; omega
  go_quiet ((go_at_call 31; exact Calls.same' (HC _).out))
  go_wp2
  go_ret
  refine ⟨ret_bool ?_, hG.out.drewN _⟩
  have := HM.out
  rw [decide_eq_decide]
  unfold rightP
  omega

set_option maxHeartbeats 400000 in
theorem rright_any (y m d : Int) (w : World) (hy : I y) : Calls Tryd.prog 26 #[.agg #[.int .i64 y, .int .i64 m, .int .i64 d]] w fun e w' => e = .returned (.bool (decide (rightP y m d))) ∧ Gr w w' := by
  have C : ∀ W, Hid (Calls Tryd.prog 27 #[.int .i64 y, .int .i64 m] W fun e w' => e = .returned (.int .i64 (lenF y m)) ∧ W = w') := fun W => rlength_any y m W hy
  clear hy
  obtain ⟨c0, c1, c2⟩ := boxed w y m d 32
  have hG := Lib.hid ((Gr.refl w).alloc (Obj.cells #[Value.int IntKind.i64 y, Value.int IntKind.i64 m, Value.int IntKind.i64 d] 32))
  go_enter Tryd.func26, Tryd.ntmps26
  go_wp2
  generalize w.alloc (Obj.cells #[Value.int IntKind.i64 y, Value.int IntKind.i64 m, Value.int IntKind.i64 d] 32) = W at *
  by_cases h0 : 1900 ≤ y
  rotate_left
  · have d0 : decide (1900 ≤ y) = false := by simp only [decide_eq_false_iff_not]; omega
    clear C
    first | go_region | fail
    go_wp2
    go_ret
    exact ⟨ret_bool (by symm; rw [decide_eq_false_iff_not]; unfold rightP; omega), hG.out.drew⟩
  have d0 : decide (1900 ≤ y) = true := by simp only [decide_eq_true_eq]; omega
  by_cases h1 : y ≤ 2299
  rotate_left
  · have d1 : decide (y ≤ 2299) = false := by simp only [decide_eq_false_iff_not]; omega
    clear C
    first | go_region | fail
    go_wp2
    go_ret
    exact ⟨ret_bool (by symm; rw [decide_eq_false_iff_not]; unfold rightP; omega), hG.out.drew⟩
  have d1 : decide (y ≤ 2299) = true := by simp only [decide_eq_true_eq]; omega
  by_cases h2 : 1 ≤ m
  rotate_left
  · have d2 : decide (1 ≤ m) = false := by simp only [decide_eq_false_iff_not]; omega
    clear C
    first | go_region | fail
    go_wp2
    go_ret
    exact ⟨ret_bool (by symm; rw [decide_eq_false_iff_not]; unfold rightP; omega), hG.out.drew⟩
  have d2 : decide (1 ≤ m) = true := by simp only [decide_eq_true_eq]; omega
  by_cases h3 : m ≤ 12
  rotate_left
  · have d3 : decide (m ≤ 12) = false := by simp only [decide_eq_false_iff_not]; omega
    clear C
    first | go_region | fail
    go_wp2
    go_ret
    exact ⟨ret_bool (by symm; rw [decide_eq_false_iff_not]; unfold rightP; omega), hG.out.drew⟩
  have d3 : decide (m ≤ 12) = true := by simp only [decide_eq_true_eq]; omega
  by_cases h4 : 1 ≤ d
  rotate_left
  · have d4 : decide (1 ≤ d) = false := by simp only [decide_eq_false_iff_not]; omega
    clear C
    first | go_region | fail
    go_wp2
    go_ret
    exact ⟨ret_bool (by symm; rw [decide_eq_false_iff_not]; unfold rightP; omega), hG.out.drew⟩
  have d4 : decide (1 ≤ d) = true := by simp only [decide_eq_true_eq]; omega
  go_quiet ((go_at_call 27; exact Calls.same' (C _).out))
  go_wp2
  go_ret
  refine ⟨ret_bool ?_, hG.out.drewN _⟩
  rw [decide_eq_decide]
  unfold rightP
  omega

theorem right_yes {y m d : Int} (w : World) (hy : I y) (hL : Lens w) (h : rightP y m d) : Calls Tryd.prog 30 #[.agg #[.int .i64 y, .int .i64 m, .int .i64 d]] w fun e w' => e = .returned (.bool true) ∧ Gr w w' := by
  have := right_any y m d w hy hL; simpa only [decide_eq_true h] using this
theorem right_no {y m d : Int} (w : World) (hy : I y) (hL : Lens w) (h : ¬ rightP y m d) : Calls Tryd.prog 30 #[.agg #[.int .i64 y, .int .i64 m, .int .i64 d]] w fun e w' => e = .returned (.bool false) ∧ Gr w w' := by
  have := right_any y m d w hy hL; simpa only [decide_eq_false h] using this
theorem rright_yes {y m d : Int} (w : World) (hy : I y) (h : rightP y m d) : Calls Tryd.prog 26 #[.agg #[.int .i64 y, .int .i64 m, .int .i64 d]] w fun e w' => e = .returned (.bool true) ∧ Gr w w' := by
  have := rright_any y m d w hy; simpa only [decide_eq_true h] using this
theorem rright_no {y m d : Int} (w : World) (hy : I y) (h : ¬ rightP y m d) : Calls Tryd.prog 26 #[.agg #[.int .i64 y, .int .i64 m, .int .i64 d]] w fun e w' => e = .returned (.bool false) ∧ Gr w w' := by
  have := rright_any y m d w hy; simpa only [decide_eq_false h] using this

set_option maxHeartbeats 400000 in
theorem leaps_any (y : Int) (w : World) (h0 : 1 ≤ y) (h1 : y ≤ 3000) : Calls Tryd.prog 43 #[.int .i64 y] w fun e w' => e = .returned (.int .i64 (lpF y)) ∧ w = w' := by
  have e1 : (y - 1).tdiv 4 = (y - 1) / 4 := Int.tdiv_eq_ediv_of_nonneg (by omega)
  have e2 : (y - 1).tdiv 100 = (y - 1) / 100 := Int.tdiv_eq_ediv_of_nonneg (by omega)
  have e3 : (y - 1).tdiv 400 = (y - 1) / 400 := Int.tdiv_eq_ediv_of_nonneg (by omega)
  have b1 : 0 ≤ (y - 1) / 4 ∧ (y - 1) / 4 ≤ 3000 := by omega
  have b2 : 0 ≤ (y - 1) / 100 ∧ (y - 1) / 100 ≤ 3000 := by omega
  have b3 : 0 ≤ (y - 1) / 400 ∧ (y - 1) / 400 ≤ 3000 := by omega
  go_enter Tryd.func43, Tryd.ntmps43
  go_wp2
  go_ret
  refine ⟨ret_int ?_, rfl⟩
  rfl

set_option maxHeartbeats 400000 in
theorem ny_any (y : Int) (w : World) (h0 : 1900 ≤ y) (h1 : y ≤ 2301) : Calls Tryd.prog 40 #[.int .i64 y] w fun e w' => e = .returned (.int .i64 (nyF y)) ∧ w = w' := by
  have C : ∀ W, Hid (Calls Tryd.prog 43 #[.int .i64 y] W fun e w' => e = .returned (.int .i64 (lpF y)) ∧ W = w') := fun W => leaps_any y W (by omega) (by omega)
  have D : ∀ W, Hid (Calls Tryd.prog 43 #[.int .i64 1900] W fun e w' => e = .returned (.int .i64 460) ∧ W = w') := fun W => leaps_any 1900 W (by omega) (by omega)
  have b : 0 ≤ lpF y ∧ lpF y ≤ 9000 := by unfold lpF; omega
  have HN := Lib.hid (show nyF y = 365 * (y - 1900) + lpF y - 460 by rfl)
  generalize lpF y = z at *
  go_enter Tryd.func40, Tryd.ntmps40
  go_wp2_with fail
  refine (C _).out.mono ?_
  rintro e w1 ⟨rfl, rfl⟩
  go_wp2_with fail
  refine (D _).out.mono ?_
  rintro e w1 ⟨rfl, rfl⟩
  go_wp2
  go_ret
  exact ⟨ret_int HN.out.symm, rfl⟩

theorem tmod7 (n : Int) : (n.tmod 7 + 7).tmod 7 = n % 7 ∧ -7 < n.tmod 7 ∧ n.tmod 7 < 7 ∧ (n.tmod 7 = n % 7 ∨ n.tmod 7 = n % 7 - 7) := by
  have h1 : n.tmod 7 = n % 7 ∨ n.tmod 7 = n % 7 - 7 := by
    rcases Int.lt_or_le n 0 with c | c
    · have := Int.tmod_eq_emod (a := n) (b := 7)
      rw [this]; split <;> simp <;> omega
    · left; exact Int.tmod_eq_emod_of_nonneg c
  have hb : -7 < n.tmod 7 ∧ n.tmod 7 < 7 := by
    refine ⟨?_, Int.tmod_lt_of_pos n (by omega)⟩
    rcases h1 with e | e <;> rw [e]
    · omega
    · have : n % 7 ≠ 0 ∨ n % 7 = 0 := by omega
      rcases this with c | c
      · omega
      · exfalso
        have : (7 : Int) ∣ n := Int.dvd_of_emod_eq_zero c
        rw [Int.dvd_iff_tmod_eq_zero] at this
        omega
  refine ⟨?_, hb.1, hb.2, h1⟩
  rw [Int.tmod_eq_emod_of_nonneg (by omega)]
  omega

set_option maxHeartbeats 400000 in
theorem week_any (n : Int) (w : World) (h : I n) : Calls Tryd.prog 36 #[.int .i64 n] w fun e w' => e = .returned (.int .i64 (n % 7)) ∧ w = w' := by
  obtain ⟨e1, b1, b2, _⟩ := tmod7 n
  have b3 : 0 ≤ n % 7 ∧ n % 7 < 7 := by omega
  obtain ⟨h0, h1⟩ := h
  go_enter Tryd.func36, Tryd.ntmps36
  go_wp2
  go_ret
  exact ⟨rfl, rfl⟩

set_option maxHeartbeats 400000 in
theorem rweek_any (n : Int) (w : World) (h : I n) : Calls Tryd.prog 37 #[.int .i64 n] w fun e w' => e = .returned (.int .i64 (n % 7)) ∧ w = w' := by
  obtain ⟨_, b1, b2, e1⟩ := tmod7 n
  have HE := Lib.hid e1
  clear e1
  obtain ⟨h0, h1⟩ := h
  go_enter Tryd.func37, Tryd.ntmps37
  go_wp2
  all_goals go_ret
  all_goals
    refine ⟨ret_int ?_, rfl⟩
    have := HE.out
    omega
theorem gcell {w w' : World} (h : Gr w w') {b o : Nat} {v : Value} (hb : b < w.heap.size) (hc : w.cell? ⟨b, o, none⟩ = some v) : w'.cell? ⟨b, o, none⟩ = some v := by
  rw [h.below.cell (p := ⟨b, o, none⟩) hb]; exact hc
theorem ret_pair {a b c d : Int} (h : a = b) (h2 : c = d) : Ending.returned (.tuple #[.int .i64 a, .int .i64 c]) = .returned (.tuple #[.int .i64 b, .int .i64 d]) := by rw [h, h2]
end Go.Proofs.YtijhfjehdpgjmaaDoor
