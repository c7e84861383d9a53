/- Actual and Thirty, of the program and of the document's answer. -/
import Derived.Test.YtijhfjehdpgjmaaDoorCalMon
namespace Go.Proofs.YtijhfjehdpgjmaaDoor
open Go.RowKit Go.Sort

/-- two dates, where a call lays its arguments -/
theorem boxed2 (w : World) (y m d y' m' d' : Int) (t : TypeId) :
    DBox ((w.alloc (Obj.cells #[Value.int IntKind.i64 y, Value.int IntKind.i64 m, Value.int IntKind.i64 d] t)).alloc (Obj.cells #[Value.int IntKind.i64 y', Value.int IntKind.i64 m', Value.int IntKind.i64 d'] t)) w.heap.size y m d ∧
    DBox ((w.alloc (Obj.cells #[Value.int IntKind.i64 y, Value.int IntKind.i64 m, Value.int IntKind.i64 d] t)).alloc (Obj.cells #[Value.int IntKind.i64 y', Value.int IntKind.i64 m', Value.int IntKind.i64 d'] t)) (w.heap.size + 1) y' m' d' := by
  have h := DBox.made (w.alloc (Obj.cells #[Value.int IntKind.i64 y, Value.int IntKind.i64 m, Value.int IntKind.i64 d] t)) y' m' d' t
  simp only [World.size_alloc] at h
  exact ⟨(DBox.made w y m d t).gr ((Gr.refl _).alloc _), h⟩

set_option maxHeartbeats 800000 in
theorem actual_core (y m d y' m' d' N E N' E' R F : Int) (w : World) (hL : Lens w)
    (A : ∀ W, Lens W → Calls Tryd.prog 29 #[.agg #[.int .i64 y, .int .i64 m, .int .i64 d]] W fun e w' => e = .returned (.tuple #[.int .i64 N, .int .i64 E]) ∧ Gr W w')
    (B : ∀ W, Lens W → Calls Tryd.prog 29 #[.agg #[.int .i64 y', .int .i64 m', .int .i64 d']] W fun e w' => e = .returned (.tuple #[.int .i64 N', .int .i64 E']) ∧ Gr W w')
    (hN : 0 ≤ N ∧ N ≤ 146097) (hN' : 0 ≤ N' ∧ N' ≤ 146097)
    (hcase : (E ≠ 0 ∧ R = 0 ∧ F = E) ∨ (E = 0 ∧ E' ≠ 0 ∧ R = 0 ∧ F = E') ∨ (E = 0 ∧ E' = 0 ∧ R = N' - N ∧ F = 0)) :
    Calls Tryd.prog 13 #[.agg #[.int .i64 y, .int .i64 m, .int .i64 d], .agg #[.int .i64 y', .int .i64 m', .int .i64 d']] w fun e w' => e = .returned (.tuple #[.int .i64 R, .int .i64 F]) ∧ Gr w w' := by
  have HA := Lib.hid A
  have HB := Lib.hid B
  have HL := Lib.hid hL
  clear A B hL
  have hK := boxed2 w y m d y' m' d' 32
  have HK := Lib.hid hK
  obtain ⟨⟨_, ⟨c0, c1, c2⟩, _, _, _⟩, ⟨_, ⟨d0, d1, d2⟩, _, _, _⟩⟩ := hK
  go_enter Tryd.func13, Tryd.ntmps13
  go_wp2_with fail
  refine (HA.out _ (HL.out.gr (((Gr.refl _).alloc _).alloc _))).mono ?_
  rintro e w1 ⟨rfl, hg1⟩
  have HG1 := Lib.hid ((((Gr.refl _).alloc _).alloc _).trans hg1)
  obtain ⟨_, ⟨e0, e1, e2⟩, _, _, _⟩ := HK.out.2.gr hg1
  clear hg1 c0 c1 c2 d0 d1 d2 HA HK
  rcases hcase with ⟨h1, h2, h3⟩ | ⟨h1, h2, h3, h4⟩ | ⟨h1, h2, h3, h4⟩
  · subst h2 h3
    go_wp2
    go_ret2
    exact ⟨rfl, HG1.out⟩
  · subst h1 h3 h4
    go_wp2_with fail
    refine (HB.out _ (HL.out.gr HG1.out)).mono ?_
    rintro e w2 ⟨rfl, hg2⟩
    have HG2 := Lib.hid (HG1.out.trans hg2)
    clear hg2
    go_wp2
    go_ret2
    exact ⟨rfl, HG2.out⟩
  · subst h1 h2 h3 h4
    go_wp2_with fail
    refine (HB.out _ (HL.out.gr HG1.out)).mono ?_
    rintro e w2 ⟨rfl, hg2⟩
    have HG2 := Lib.hid (HG1.out.trans hg2)
    clear hg2
    go_wp2
    go_ret2
    exact ⟨rfl, HG2.out⟩

theorem actual_yes {y m d y' m' d' : Int} (w : World) (hL : Lens w) (h : rightP y m d) (h' : rightP y' m' d') :
    Calls Tryd.prog 13 #[.agg #[.int .i64 y, .int .i64 m, .int .i64 d], .agg #[.int .i64 y', .int .i64 m', .int .i64 d']] w fun e w' => e = .returned (.tuple #[.int .i64 (numF y' m' d' - numF y m d), .int .i64 0]) ∧ Gr w w' := by
  have n1 := num_in h
  have n2 := num_in h'
  exact actual_core y m d y' m' d' _ 0 _ 0 _ 0 w hL (fun W hW => number_yes y m d W hW h) (fun W hW => number_yes y' m' d' W hW h') (by omega) (by omega) (Or.inr (Or.inr ⟨rfl, rfl, rfl, rfl⟩))
theorem actual_no {y m d y' m' d' : Int} (w : World) (hy : I y) (hy' : I y') (hL : Lens w) (h : ¬ (rightP y m d ∧ rightP y' m' d')) :
    Calls Tryd.prog 13 #[.agg #[.int .i64 y, .int .i64 m, .int .i64 d], .agg #[.int .i64 y', .int .i64 m', .int .i64 d']] w fun e w' => e = .returned (.tuple #[.int .i64 0, .int .i64 31]) ∧ Gr w w' := by
  by_cases h1 : rightP y m d
  · have n1 := num_in h1
    have h2 : ¬ rightP y' m' d' := fun h2 => h ⟨h1, h2⟩
    exact actual_core y m d y' m' d' _ 0 _ 31 _ 31 w hL (fun W hW => number_yes y m d W hW h1) (fun W hW => number_no y' m' d' W hy' hW h2) (by omega) (by omega) (Or.inr (Or.inl ⟨rfl, by omega, rfl, rfl⟩))
  · by_cases h2 : rightP y' m' d'
    · have n2 := num_in h2
      exact actual_core y m d y' m' d' _ 31 _ 0 _ 31 w hL (fun W hW => number_no y m d W hy hW h1) (fun W hW => number_yes y' m' d' W hW h2) (by omega) (by omega) (Or.inl ⟨by omega, rfl, rfl⟩)
    · exact actual_core y m d y' m' d' _ 31 _ 31 _ 31 w hL (fun W hW => number_no y m d W hy hW h1) (fun W hW => number_no y' m' d' W hy' hW h2) (by omega) (by omega) (Or.inl ⟨by omega, rfl, rfl⟩)

/-- days, if each month has thirty -/
def thF (y m d y' m' d' : Int) : Int := 360 * (y' - y) + 30 * (m' - m) + (if 30 ≤ d ∧ d' = 31 then 30 else d') - (if d = 31 then 30 else d)

set_option maxHeartbeats 1600000 in
theorem thirty_yes {y m d y' m' d' : Int} (w : World) (hL : Lens w) (h : rightP y m d) (h' : rightP y' m' d') :
    Calls Tryd.prog 16 #[.agg #[.int .i64 y, .int .i64 m, .int .i64 d], .agg #[.int .i64 y', .int .i64 m', .int .i64 d']] w fun e w' => e = .returned (.tuple #[.int .i64 (thF y m d y' m' d'), .int .i64 0]) ∧ Gr w w' := by
  have l1 := lenF_hi y m
  have l2 := lenF_hi y' m'
  obtain ⟨a1, a2, a3, a4, a5, a6⟩ := h
  obtain ⟨b1, b2, b3, b4, b5, b6⟩ := h'
  have A : ∀ W, Lens W → Hid (Calls Tryd.prog 30 #[.agg #[.int .i64 y, .int .i64 m, .int .i64 d]] W fun e w' => e = .returned (.bool true) ∧ Gr W w') := fun W hW => right_yes W ⟨by omega, by omega⟩ hW ⟨a1, a2, a3, a4, a5, a6⟩
  have B : ∀ W, Lens W → Hid (Calls Tryd.prog 30 #[.agg #[.int .i64 y', .int .i64 m', .int .i64 d']] W fun e w' => e = .returned (.bool true) ∧ Gr W w') := fun W hW => right_yes W ⟨by omega, by omega⟩ hW ⟨b1, b2, b3, b4, b5, b6⟩
  have a7 : d ≤ 31 := by omega
  have b7 : d' ≤ 31 := by omega
  have HT := Lib.hid (show thF y m d y' m' d' = 360 * (y' - y) + 30 * (m' - m) + (if 30 ≤ d ∧ d' = 31 then 30 else d') - (if d = 31 then 30 else d) from rfl)
  clear a6 b6 l1 l2
  have HL := Lib.hid hL
  clear hL
  have hK := boxed2 w y m d y' m' d' 32
  have HK := Lib.hid hK
  obtain ⟨⟨_, ⟨c0, c1, c2⟩, _, _, _⟩, ⟨_, ⟨d0, d1, d2⟩, _, _, _⟩⟩ := hK
  go_enter Tryd.func16, Tryd.ntmps16
  go_wp2_with fail
  refine (A _ (HL.out.gr (((Gr.refl _).alloc _).alloc _))).out.mono ?_
  rintro e w1 ⟨rfl, hg1⟩
  have HG1 := Lib.hid ((((Gr.refl _).alloc _).alloc _).trans hg1)
  have HK1 := Lib.hid (And.intro (HK.out.1.gr hg1) (HK.out.2.gr hg1))
  clear hg1 c0 c1 c2 d0 d1 d2 HK A
  obtain ⟨_, ⟨e0, e1, e2⟩, _, _, _⟩ := HK1.out.2
  go_wp2_with fail
  refine (B _ (HL.out.gr HG1.out)).out.mono ?_
  rintro e w2 ⟨rfl, hg2⟩
  have HG2 := Lib.hid (HG1.out.trans hg2)
  obtain ⟨_, ⟨c0, c1, c2⟩, _, _, _⟩ := HK1.out.1.gr hg2
  obtain ⟨_, ⟨d0, d1, d2⟩, _, _, _⟩ := HK1.out.2.gr hg2
  clear hg2 e0 e1 e2 HK1 B HG1
  by_cases h1 : d ≤ 29
  · have HZ := Lib.hid (HT.out.trans (show _ = 360 * (y' - y) + 30 * (m' - m) + d' - d by rw [if_neg (by omega), if_neg (by omega)]))
    have h2 : d ≤ 30 := by omega
    have h3 : ¬ d = 30 := by omega
    go_wp2
    go_ret2
    exact ⟨ret_pair (by rw [HZ.out]; omega) rfl, HG2.out⟩
  · by_cases h2 : d' ≤ 30
    · by_cases h3 : d = 30
      · subst h3
        have HZ := Lib.hid (HT.out.trans (show _ = 360 * (y' - y) + 30 * (m' - m) + d' - 30 by rw [if_neg (by omega), if_neg (by omega)]))
        go_wp2
        all_goals (go_ret2; exact ⟨ret_pair (by rw [HZ.out]; omega) rfl, HG2.out⟩)
      · obtain rfl : d = 31 := by omega
        have HZ := Lib.hid (HT.out.trans (show _ = 360 * (y' - y) + 30 * (m' - m) + d' - 30 by rw [if_neg (by omega), if_pos (by omega)]))
        go_wp2
        all_goals (go_ret2; exact ⟨ret_pair (by rw [HZ.out]; omega) rfl, HG2.out⟩)
    · obtain rfl : d' = 31 := by omega
      by_cases h3 : d = 30
      · subst h3
        have HZ := Lib.hid (HT.out.trans (show _ = 360 * (y' - y) + 30 * (m' - m) + 30 - 30 by rw [if_pos (by omega), if_neg (by omega)]))
        go_wp2
        all_goals (go_ret2; exact ⟨ret_pair (by rw [HZ.out]; omega) rfl, HG2.out⟩)
      · obtain rfl : d = 31 := by omega
        have HZ := Lib.hid (HT.out.trans (show _ = 360 * (y' - y) + 30 * (m' - m) + 30 - 30 by rw [if_pos (by omega), if_pos (by omega)]))
        go_wp2
        all_goals (go_ret2; exact ⟨ret_pair (by rw [HZ.out]; omega) rfl, HG2.out⟩)

set_option maxHeartbeats 800000 in
theorem thirty_no {y m d y' m' d' : Int} (w : World) (hy : I y) (hy' : I y') (hL : Lens w) (h : ¬ (rightP y m d ∧ rightP y' m' d')) :
    Calls Tryd.prog 16 #[.agg #[.int .i64 y, .int .i64 m, .int .i64 d], .agg #[.int .i64 y', .int .i64 m', .int .i64 d']] w fun e w' => e = .returned (.tuple #[.int .i64 0, .int .i64 31]) ∧ Gr w w' := by
  have HL := Lib.hid hL
  clear hL
  have hK := boxed2 w y m d y' m' d' 32
  have HK := Lib.hid hK
  obtain ⟨⟨_, ⟨c0, c1, c2⟩, _, _, _⟩, ⟨_, ⟨d0, d1, d2⟩, _, _, _⟩⟩ := hK
  by_cases h1 : rightP y m d
  · have h2 : ¬ rightP y' m' d' := fun h2 => h ⟨h1, h2⟩
    have A : ∀ W, Lens W → Hid (Calls Tryd.prog 30 #[.agg #[.int .i64 y, .int .i64 m, .int .i64 d]] W fun e w' => e = .returned (.bool true) ∧ Gr W w') := fun W hW => right_yes W hy hW h1
    have B : ∀ W, Lens W → Hid (Calls Tryd.prog 30 #[.agg #[.int .i64 y', .int .i64 m', .int .i64 d']] W fun e w' => e = .returned (.bool false) ∧ Gr W w') := fun W hW => right_no W hy' hW h2
    clear hy hy' h h1 h2
    go_enter Tryd.func16, Tryd.ntmps16
    go_wp2_with fail
    refine (A _ (HL.out.gr (((Gr.refl _).alloc _).alloc _))).out.mono ?_
    rintro e w1 ⟨rfl, hg1⟩
    have HG1 := Lib.hid ((((Gr.refl _).alloc _).alloc _).trans hg1)
    obtain ⟨_, ⟨e0, e1, e2⟩, _, _, _⟩ := HK.out.2.gr hg1
    clear hg1 c0 c1 c2 d0 d1 d2 HK A
    go_wp2_with fail
    refine (B _ (HL.out.gr HG1.out)).out.mono ?_
    rintro e w2 ⟨rfl, hg2⟩
    have HG2 := Lib.hid (HG1.out.trans hg2)
    clear hg2
    go_wp2
    go_ret2
    exact ⟨rfl, HG2.out⟩
  · have A : ∀ W, Lens W → Hid (Calls Tryd.prog 30 #[.agg #[.int .i64 y, .int .i64 m, .int .i64 d]] W fun e w' => e = .returned (.bool false) ∧ Gr W w') := fun W hW => right_no W hy hW h1
    clear hy hy' h h1
    go_enter Tryd.func16, Tryd.ntmps16
    go_wp2_with fail
    refine (A _ (HL.out.gr (((Gr.refl _).alloc _).alloc _))).out.mono ?_
    rintro e w1 ⟨rfl, hg1⟩
    have HG1 := Lib.hid ((((Gr.refl _).alloc _).alloc _).trans hg1)
    clear hg1
    go_wp2
    go_ret2
    exact ⟨rfl, HG1.out⟩
end Go.Proofs.YtijhfjehdpgjmaaDoor
