/- Thirty, of the document's answer. -/
import Derived.Test.YtijhfjehdpgjmaaDoorCalAct
namespace Go.Proofs.YtijhfjehdpgjmaaDoor
open Go.RowKit Go.Sort

set_option maxHeartbeats 1600000 in
theorem rthirty_yes {y m d y' m' d' : Int} (w : World) (h : rightP y m d) (h' : rightP y' m' d') :
    Calls Tryd.prog 17 #[.agg #[.int .i64 y, .int .i64 m, .int .i64 d], .agg #[.int .i64 y', .int .i64 m', .int .i64 d']] w fun e w' => e = .returned (.tuple #[.int .i64 (thF y m d y' m' d'), .int .i64 0]) ∧ Gr w w' := by
  have l1 := lenF_hi y m
  have l2 := lenF_hi y' m'
  obtain ⟨a1, a2, a3, a4, a5, a6⟩ := h
  obtain ⟨b1, b2, b3, b4, b5, b6⟩ := h'
  have A : ∀ W, Hid (Calls Tryd.prog 26 #[.agg #[.int .i64 y, .int .i64 m, .int .i64 d]] W fun e w' => e = .returned (.bool true) ∧ Gr W w') := fun W => rright_yes W ⟨by omega, by omega⟩ ⟨a1, a2, a3, a4, a5, a6⟩
  have B : ∀ W, Hid (Calls Tryd.prog 26 #[.agg #[.int .i64 y', .int .i64 m', .int .i64 d']] W fun e w' => e = .returned (.bool true) ∧ Gr W w') := fun W => rright_yes W ⟨by omega, by omega⟩ ⟨b1, b2, b3, b4, b5, b6⟩
  have a7 : d ≤ 31 := by omega
  have b7 : d' ≤ 31 := by omega
  have HT := Lib.hid (show thF y m d y' m' d' = 360 * (y' - y) + 30 * (m' - m) + (if 30 ≤ d ∧ d' = 31 then 30 else d') - (if d = 31 then 30 else d) from rfl)
  clear a6 b6 l1 l2
  have hK := boxed2 w y m d y' m' d' 32
  have HK := Lib.hid hK
  obtain ⟨⟨_, ⟨c0, c1, c2⟩, _, _, _⟩, ⟨_, ⟨d0, d1, d2⟩, _, _, _⟩⟩ := hK
  go_enter Tryd.func17, Tryd.ntmps17
  go_wp2_with fail
  refine (A _).out.mono ?_
  rintro e w1 ⟨rfl, hg1⟩
  have HG1 := Lib.hid ((((Gr.refl _).alloc _).alloc _).trans hg1)
  have HK1 := Lib.hid (And.intro (HK.out.1.gr hg1) (HK.out.2.gr hg1))
  clear hg1 c0 c1 c2 d0 d1 d2 HK A
  obtain ⟨_, ⟨e0, e1, e2⟩, _, _, _⟩ := HK1.out.2
  go_wp2_with fail
  refine (B _).out.mono ?_
  rintro e w2 ⟨rfl, hg2⟩
  have HG2 := Lib.hid (HG1.out.trans hg2)
  obtain ⟨_, ⟨c0, c1, c2⟩, _, _, _⟩ := HK1.out.1.gr hg2
  obtain ⟨_, ⟨d0, d1, d2⟩, _, _, _⟩ := HK1.out.2.gr hg2
  clear hg2 e0 e1 e2 HK1 B HG1
  go_wp2_with fail
  go_quiet (fail)
  by_cases h1 : d ≤ 29
  · have HZ := Lib.hid (HT.out.trans (show _ = 360 * (y' - y) + 30 * (m' - m) + d' - d by rw [if_neg (by omega), if_neg (by omega)]))
    have h2 : d ≤ 30 := by omega
    have h3 : ¬ d = 30 := by omega
    go_wp2
    all_goals (go_ret2; exact ⟨ret_pair (by rw [HZ.out]; omega) rfl, HG2.out.drewN _⟩)
  · by_cases h2 : d' ≤ 30
    · by_cases h3 : d = 30
      · subst h3
        have HZ := Lib.hid (HT.out.trans (show _ = 360 * (y' - y) + 30 * (m' - m) + d' - 30 by rw [if_neg (by omega), if_neg (by omega)]))
        go_wp2
        all_goals (go_ret2; exact ⟨ret_pair (by rw [HZ.out]; omega) rfl, HG2.out.drewN _⟩)
      · obtain rfl : d = 31 := by omega
        have HZ := Lib.hid (HT.out.trans (show _ = 360 * (y' - y) + 30 * (m' - m) + d' - 30 by rw [if_neg (by omega), if_pos (by omega)]))
        go_wp2
        all_goals (go_ret2; exact ⟨ret_pair (by rw [HZ.out]; omega) rfl, HG2.out.drewN _⟩)
    · obtain rfl : d' = 31 := by omega
      by_cases h3 : d = 30
      · subst h3
        have HZ := Lib.hid (HT.out.trans (show _ = 360 * (y' - y) + 30 * (m' - m) + 30 - 30 by rw [if_pos (by omega), if_neg (by omega)]))
        go_wp2
        all_goals (go_ret2; exact ⟨ret_pair (by rw [HZ.out]; omega) rfl, HG2.out.drewN _⟩)
      · obtain rfl : d = 31 := by omega
        have HZ := Lib.hid (HT.out.trans (show _ = 360 * (y' - y) + 30 * (m' - m) + 30 - 30 by rw [if_pos (by omega), if_pos (by omega)]))
        go_wp2
        all_goals (go_ret2; exact ⟨ret_pair (by rw [HZ.out]; omega) rfl, HG2.out.drewN _⟩)

set_option maxHeartbeats 800000 in
theorem rthirty_no {y m d y' m' d' : Int} (w : World) (hy : I y) (hy' : I y') (h : ¬ (rightP y m d ∧ rightP y' m' d')) :
    Calls Tryd.prog 17 #[.agg #[.int .i64 y, .int .i64 m, .int .i64 d], .agg #[.int .i64 y', .int .i64 m', .int .i64 d']] w fun e w' => e = .returned (.tuple #[.int .i64 0, .int .i64 31]) ∧ Gr w w' := by
  have hK := boxed2 w y m d y' m' d' 32
  have HK := Lib.hid hK
  obtain ⟨⟨_, ⟨c0, c1, c2⟩, _, _, _⟩, ⟨_, ⟨d0, d1, d2⟩, _, _, _⟩⟩ := hK
  by_cases h1 : rightP y m d
  · have h2 : ¬ rightP y' m' d' := fun h2 => h ⟨h1, h2⟩
    have A : ∀ W, Hid (Calls Tryd.prog 26 #[.agg #[.int .i64 y, .int .i64 m, .int .i64 d]] W fun e w' => e = .returned (.bool true) ∧ Gr W w') := fun W => rright_yes W hy h1
    have B : ∀ W, Hid (Calls Tryd.prog 26 #[.agg #[.int .i64 y', .int .i64 m', .int .i64 d']] W fun e w' => e = .returned (.bool false) ∧ Gr W w') := fun W => rright_no W hy' h2
    clear hy hy' h h1 h2
    go_enter Tryd.func17, Tryd.ntmps17
    go_wp2_with fail
    refine (A _).out.mono ?_
    rintro e w1 ⟨rfl, hg1⟩
    have HG1 := Lib.hid ((((Gr.refl _).alloc _).alloc _).trans hg1)
    obtain ⟨_, ⟨e0, e1, e2⟩, _, _, _⟩ := HK.out.2.gr hg1
    clear hg1 c0 c1 c2 d0 d1 d2 HK A
    go_wp2_with fail
    refine (B _).out.mono ?_
    rintro e w2 ⟨rfl, hg2⟩
    have HG2 := Lib.hid (HG1.out.trans hg2)
    clear hg2
    go_wp2
    go_ret2
    exact ⟨rfl, HG2.out⟩
  · have A : ∀ W, Hid (Calls Tryd.prog 26 #[.agg #[.int .i64 y, .int .i64 m, .int .i64 d]] W fun e w' => e = .returned (.bool false) ∧ Gr W w') := fun W => rright_no W hy h1
    clear hy hy' h h1
    go_enter Tryd.func17, Tryd.ntmps17
    go_wp2_with fail
    refine (A _).out.mono ?_
    rintro e w1 ⟨rfl, hg1⟩
    have HG1 := Lib.hid ((((Gr.refl _).alloc _).alloc _).trans hg1)
    clear hg1
    go_wp2
    go_ret2
    exact ⟨rfl, HG1.out⟩
end Go.Proofs.YtijhfjehdpgjmaaDoor
