/- CalendarTwelve: months on, and on again; where the law asks nothing. -/
import Derived.Test.YtijhfjehdpgjmaaDoorCalAlive
import Derived.Test.YtijhfjehdpgjmaaDoorCalAct
namespace Go.Proofs.YtijhfjehdpgjmaaDoor
open Go.RowKit Go.Sort

/-- months on, and on again -/
theorem m_twice (y m p q : Int) : mY (mY y m p) (mM y m p) q = mY y m (p + q) ∧ mM (mY y m p) (mM y m p) q = mM y m (p + q) := by
  have e : mF (mY y m p) (mM y m p) q = mF y m (p + q) := by
    have := mF_eq y m p
    unfold mF at *
    omega
  unfold mY mM
  unfold mY mM at e
  rw [e]
  exact ⟨rfl, rfl⟩
theorem mD_end (y m d p : Int) (h : d = lenF y m) : mD y m d p = lenF (mY y m p) (mM y m p) := by unfold mD; rw [if_pos h]
theorem mD_small {y m d p : Int} (h : rightP y m d) (hd : d < 28) : mD y m d p = d := by
  obtain ⟨_, _, a3, a4, a5, a6⟩ := h
  have l1 := lenF_lo y m a3 a4
  have hm := mM_in y m p
  have l2 := lenF_lo (mY y m p) (mM y m p) hm.1 hm.2
  unfold mD
  rw [if_neg (by omega), if_pos (by omega)]
theorem twice_same {y m d p q : Int} (h : rightP y m d) (h1 : okM y m d p) (hd : d = lenF y m ∨ d < 28) : mD (mY y m p) (mM y m p) (mD y m d p) q = mD y m d (p + q) := by
  have hr := okM_right h1
  rcases hd with hd | hd
  · rw [mD_end _ _ _ _ (mD_end y m d p hd), mD_end y m d (p + q) hd, (m_twice y m p q).1, (m_twice y m p q).2]
  · rw [mD_small h hd] at hr ⊢
    rw [mD_small hr hd, mD_small h hd]
theorem th_months {y m d p : Int} (h : rightP y m d) (hd : d < 28) : thF y m d (mY y m p) (mM y m p) (mD y m d p) = 30 * p := by
  rw [mD_small h hd]
  have := mF_eq y m p
  unfold thF
  unfold mF at this
  rw [if_neg (by omega), if_neg (by omega)]
  omega

set_option maxHeartbeats 1600000 in
/-- where the law asks nothing -/
theorem law_twelve_early (y m d p q : Int) (w : World) (hy : I y) (hL : Lens w) (h : p < -2000 ∨ 2000 < p ∨ q < -2000 ∨ 2000 < q ∨ ¬ rightP y m d ∨ (28 < d ∧ d ≠ lenF y m)) :
    Calls Tryd.prog 8 #[.agg #[.int .i64 y, .int .i64 m, .int .i64 d], .int .i64 p, .int .i64 q] w fun e w' => e = .returned (.bool true) ∧ Gr w w' := by
  have A : ∀ W, Lens W → Hid (Calls Tryd.prog 10 #[] W fun e w' => e = .returned (.bool true) ∧ Gr W w') := fun W h => alive_any W h
  have R : Hid (∀ W, Calls Tryd.prog 26 #[.agg #[.int .i64 y, .int .i64 m, .int .i64 d]] W fun e w' => e = .returned (.bool (decide (rightP y m d))) ∧ Gr W w') := Lib.hid fun W => rright_any y m d W hy
  have LM : ∀ W, Hid (Calls Tryd.prog 27 #[.int .i64 y, .int .i64 m] W fun e w' => e = .returned (.int .i64 (lenF y m)) ∧ W = w') := fun W => rlength_any y m W hy
  have HL := Lib.hid hL
  clear hL hy
  have HX := Lib.hid (DBox.made w y m d 32)
  have h' : p < -2000 ∨ 2000 < p ∨ q < -2000 ∨ 2000 < q ∨ decide (rightP y m d) = false ∨ (28 < d ∧ d ≠ lenF y m) := by simpa using h
  clear h
  generalize decide (rightP y m d) = r at *
  generalize lenF y m = L at *
  go_enter Tryd.func8, Tryd.ntmps8
  go_wp2_with fail
  refine (A _ (HL.out.gr ((Gr.refl _).alloc _))).out.mono ?_
  rintro e w1 ⟨rfl, hg1⟩
  have HG1 := Lib.hid (((Gr.refl _).alloc _).trans hg1)
  obtain ⟨z3, ⟨a3, b3, c3⟩, _, _, _⟩ := HX.out.gr hg1
  clear hg1 HX A
  have mixed := mixedT
  have f0 := fun n os => cell_grown (a := ⟨w.heap.size, 0, none⟩) z3 a3 n os
  have f1 := fun n os => cell_grown (a := ⟨w.heap.size, 1, none⟩) z3 b3 n os
  have f2 := fun n os => cell_grown (a := ⟨w.heap.size, 2, none⟩) z3 c3 n os
  clear a3 b3 c3
  by_cases c1 : p < -2000
  · have dc1 : decide (p < -2000) = true := by simpa using c1
    clear c1 h'
    go_wp2_with fail
    with_reducible refine wp_region_quiet_grown (by assumption) (by kernel_rfl) ?_
    repeat (with_reducible refine wpQuiet_step (fun K hK => ?_); go_simp; first | (with_reducible refine hK _ ?_; clear hK K) | (rw [if_neg (by decide)]; with_reducible refine hK _ ?_; clear hK K) | fail)
    with_reducible refine wpQuiet_nil ?_
    intro _ hw'
    obtain ⟨⟨nq, osq⟩, hw''⟩ := hw'
    subst hw''
    go_wp2
    go_ret
    exact ⟨rfl, HG1.out.grow _ _⟩
  have dc1 : decide (p < -2000) = false := by simpa using c1
  by_cases c2 : 2000 < p
  · have dc2 : decide (2000 < p) = true := by simpa using c2
    clear c2 h'
    go_wp2_with fail
    with_reducible refine wp_region_quiet_grown (by assumption) (by kernel_rfl) ?_
    repeat (with_reducible refine wpQuiet_step (fun K hK => ?_); go_simp; first | (with_reducible refine hK _ ?_; clear hK K) | (rw [if_neg (by decide)]; with_reducible refine hK _ ?_; clear hK K) | fail)
    with_reducible refine wpQuiet_nil ?_
    intro _ hw'
    obtain ⟨⟨nq, osq⟩, hw''⟩ := hw'
    subst hw''
    go_wp2
    go_ret
    exact ⟨rfl, HG1.out.grow _ _⟩
  have dc2 : decide (2000 < p) = false := by simpa using c2
  by_cases c4 : q < -2000
  · have dc4 : decide (q < -2000) = true := by simpa using c4
    clear c4 h'
    go_wp2_with fail
    with_reducible refine wp_region_quiet_grown (by assumption) (by kernel_rfl) ?_
    repeat (with_reducible refine wpQuiet_step (fun K hK => ?_); go_simp; first | (with_reducible refine hK _ ?_; clear hK K) | (rw [if_neg (by decide)]; with_reducible refine hK _ ?_; clear hK K) | fail)
    with_reducible refine wpQuiet_nil ?_
    intro _ hw'
    obtain ⟨⟨nq, osq⟩, hw''⟩ := hw'
    subst hw''
    go_wp2
    go_ret
    exact ⟨rfl, HG1.out.grow _ _⟩
  have dc4 : decide (q < -2000) = false := by simpa using c4
  by_cases c5 : 2000 < q
  · have dc5 : decide (2000 < q) = true := by simpa using c5
    clear c5 h'
    go_wp2_with fail
    with_reducible refine wp_region_quiet_grown (by assumption) (by kernel_rfl) ?_
    repeat (with_reducible refine wpQuiet_step (fun K hK => ?_); go_simp; first | (with_reducible refine hK _ ?_; clear hK K) | (rw [if_neg (by decide)]; with_reducible refine hK _ ?_; clear hK K) | fail)
    with_reducible refine wpQuiet_nil ?_
    intro _ hw'
    obtain ⟨⟨nq, osq⟩, hw''⟩ := hw'
    subst hw''
    go_wp2
    go_ret
    exact ⟨rfl, HG1.out.grow _ _⟩
  have dc5 : decide (2000 < q) = false := by simpa using c5
  cases r
  · go_wp2_with fail
    with_reducible refine wp_region_quiet_grown (by assumption) (by kernel_rfl) ?_
    repeat (with_reducible refine wpQuiet_step (fun K hK => ?_); go_simp; first | (with_reducible refine hK _ ?_; clear hK K) | (rw [if_neg (by decide)]; with_reducible refine hK _ ?_; clear hK K) | (with_reducible apply Exists.intro; with_reducible refine ⟨fun _ => ?_, hK _ ?_⟩; (go_at_call 26; with_reducible exact Calls.gr_of (R.out _)); clear hK K))
    with_reducible refine wpQuiet_nil ?_
    intro _ hw'
    obtain ⟨⟨nq, osq⟩, hw''⟩ := hw'
    subst hw''
    go_wp2
    go_ret
    exact ⟨rfl, HG1.out.grow _ _⟩
  · obtain ⟨c6, c7⟩ : 28 < d ∧ d ≠ L := by simpa [c1, c2, c4, c5] using h'
    go_wp2_with fail
    with_reducible refine wp_region_quiet_grown (by assumption) (by kernel_rfl) ?_
    repeat (with_reducible refine wpQuiet_step (fun K hK => ?_); go_simp; first | (with_reducible refine hK _ ?_; clear hK K) | (rw [if_neg (by decide)]; with_reducible refine hK _ ?_; clear hK K) | (with_reducible apply Exists.intro; with_reducible refine ⟨fun _ => ?_, hK _ ?_⟩; (first | (go_at_call 26; with_reducible exact Calls.gr_of (R.out _)) | (go_at_call 27; with_reducible exact Calls.gr_of_same (LM _).out)); clear hK K))
    with_reducible refine wpQuiet_nil ?_
    intro _ hw'
    obtain ⟨⟨nq, osq⟩, hw''⟩ := hw'
    subst hw''
    go_wp2
    go_ret
    exact ⟨rfl, HG1.out.grow _ _⟩
end Go.Proofs.YtijhfjehdpgjmaaDoor
