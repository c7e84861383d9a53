/- The walk of falseworklaw04.CalendarCounts. -/
import Derived.Test.YtijhfjehdpgjmaaDoorCalAlive
import Derived.Test.YtijhfjehdpgjmaaDoorCalActR
namespace Go.Proofs.YtijhfjehdpgjmaaDoor
open Go.RowKit Go.Sort

set_option maxHeartbeats 1600000 in
theorem law_counts_core (y m d y' m' d' R E Z F x h z i : Int) (w : World) (hL : Lens w)
    (A : ∀ W, Lens W → Calls Tryd.prog 13 #[.agg #[.int .i64 y, .int .i64 m, .int .i64 d], .agg #[.int .i64 y', .int .i64 m', .int .i64 d']] W fun e w' => e = .returned (.tuple #[.int .i64 R, .int .i64 E]) ∧ Gr W w')
    (B : ∀ W, Lens W → Calls Tryd.prog 16 #[.agg #[.int .i64 y, .int .i64 m, .int .i64 d], .agg #[.int .i64 y', .int .i64 m', .int .i64 d']] W fun e w' => e = .returned (.tuple #[.int .i64 Z, .int .i64 F]) ∧ Gr W w')
    (C : ∀ W, Calls Tryd.prog 17 #[.agg #[.int .i64 y, .int .i64 m, .int .i64 d], .agg #[.int .i64 y', .int .i64 m', .int .i64 d']] W fun e w' => e = .returned (.tuple #[.int .i64 Z, .int .i64 F]) ∧ Gr W w')
    (D : ∀ W, Calls Tryd.prog 18 #[.agg #[.int .i64 y, .int .i64 m, .int .i64 d]] W fun e w' => e = .returned (.tuple #[.int .i64 x, .int .i64 h]) ∧ Gr W w')
    (G : ∀ W, Calls Tryd.prog 18 #[.agg #[.int .i64 y', .int .i64 m', .int .i64 d']] W fun e w' => e = .returned (.tuple #[.int .i64 z, .int .i64 i]) ∧ Gr W w')
    (hx : 0 ≤ x ∧ x ≤ 146097) (hz : 0 ≤ z ∧ z ≤ 146097)
    (hcase : (h = 0 ∧ i = 0 ∧ R = z - x ∧ E = 0) ∨ ((h ≠ 0 ∨ i ≠ 0) ∧ R = 0 ∧ E = 31)) :
    Calls Tryd.prog 5 #[.agg #[.int .i64 y, .int .i64 m, .int .i64 d], .agg #[.int .i64 y', .int .i64 m', .int .i64 d']] w fun e w' => e = .returned (.bool true) ∧ Gr w w' := by
  have HA := Lib.hid A
  have HB := Lib.hid B
  have HC := Lib.hid C
  have HD := Lib.hid D
  have HH := Lib.hid G
  have HL := Lib.hid hL
  clear hL A B C D G
  have HK := Lib.hid (boxed2 w y m d y' m' d' 32)
  go_enter Tryd.func5, Tryd.ntmps5
  go_wp2_with fail
  refine (alive_any _ (HL.out.gr (((Gr.refl _).alloc _).alloc _))).mono ?_
  rintro e w1 ⟨rfl, hg1⟩
  have HG1 := Lib.hid ((((Gr.refl _).alloc _).alloc _).trans hg1)
  have HK1 := Lib.hid (And.intro (HK.out.1.gr hg1) (HK.out.2.gr hg1))
  clear hg1 HK
  obtain ⟨⟨_, ⟨c0, c1, c2⟩, _, _, _⟩, ⟨_, ⟨d0, d1, d2⟩, _, _, _⟩⟩ := HK1.out
  go_wp2_with fail
  refine (HA.out _ (HL.out.gr HG1.out)).mono ?_
  rintro e w2 ⟨rfl, hg2⟩
  have HG2 := Lib.hid (HG1.out.trans hg2)
  have HK2 := Lib.hid (And.intro (HK1.out.1.gr hg2) (HK1.out.2.gr hg2))
  clear hg2 HK1 c0 c1 c2 d0 d1 d2 HG1
  obtain ⟨⟨_, ⟨c0, c1, c2⟩, _, _, _⟩, ⟨_, ⟨d0, d1, d2⟩, _, _, _⟩⟩ := HK2.out
  go_wp2_with fail
  refine (HB.out _ (HL.out.gr HG2.out)).mono ?_
  rintro e w3 ⟨rfl, hg3⟩
  have HG3 := Lib.hid (HG2.out.trans hg3)
  have HK3 := Lib.hid (And.intro (HK2.out.1.gr hg3) (HK2.out.2.gr hg3))
  clear hg3 HK2 c0 c1 c2 d0 d1 d2 HG2
  obtain ⟨⟨_, ⟨c0, c1, c2⟩, _, _, _⟩, ⟨_, ⟨d0, d1, d2⟩, _, _, _⟩⟩ := HK3.out
  go_wp2_with fail
  refine (HC.out _).mono ?_
  rintro e w4 ⟨rfl, hg4⟩
  have HG4 := Lib.hid (HG3.out.trans hg4)
  have HK4 := Lib.hid (And.intro (HK3.out.1.gr hg4) (HK3.out.2.gr hg4))
  clear hg4 HK3 c0 c1 c2 d0 d1 d2 HG3
  obtain ⟨⟨_, ⟨c0, c1, c2⟩, _, _, _⟩, ⟨_, ⟨d0, d1, d2⟩, _, _, _⟩⟩ := HK4.out
  go_wp2_with fail
  refine (HD.out _).mono ?_
  rintro e w5 ⟨rfl, hg5⟩
  have HG5 := Lib.hid (HG4.out.trans hg5)
  have HK5 := Lib.hid (And.intro (HK4.out.1.gr hg5) (HK4.out.2.gr hg5))
  clear hg5 HK4 c0 c1 c2 d0 d1 d2 HG4
  obtain ⟨⟨_, ⟨c0, c1, c2⟩, _, _, _⟩, ⟨_, ⟨d0, d1, d2⟩, _, _, _⟩⟩ := HK5.out
  go_wp2_with fail
  refine (HH.out _).mono ?_
  rintro e w6 ⟨rfl, hg6⟩
  have HG6 := Lib.hid (HG5.out.trans hg6)
  clear hg6 c0 c1 c2 d0 d1 d2 HK5 HG5
  rcases hcase with ⟨h1, h2, h3, h4⟩ | ⟨h1, h2, h3⟩
  · subst h1 h2 h3 h4
    go_wp2
    go_ret
    exact ⟨rfl, HG6.out⟩
  · subst h2 h3
    by_cases hh : h = 0
    · have hi : ¬ i = 0 := by omega
      subst hh
      go_wp2
      go_ret
      exact ⟨rfl, HG6.out⟩
    · go_wp2
      go_ret
      exact ⟨rfl, HG6.out⟩

theorem calendarCounts_walk (y m d y' m' d' : Int) (w : World) (hy : I y) (_ : I m) (_ : I d) (hy' : I y') (_ : I m') (_ : I d') (hL : Lens w) :
    Calls Tryd.prog 5 #[.agg #[.int .i64 y, .int .i64 m, .int .i64 d], .agg #[.int .i64 y', .int .i64 m', .int .i64 d']] w fun e w' => e = .returned (.bool true) ∧ Below w.heap.size w w' := by
  by_cases h1 : rightP y m d
  · have n1 := num_in h1
    by_cases h2 : rightP y' m' d'
    · have n2 := num_in h2
      exact (law_counts_core y m d y' m' d' _ 0 _ 0 _ 0 _ 0 w hL (fun W hW => actual_yes W hW h1 h2) (fun W hW => thirty_yes W hW h1 h2) (fun W => rthirty_yes W h1 h2) (fun W => rnumber_yes y m d W h1) (fun W => rnumber_yes y' m' d' W h2) (by omega) (by omega) (Or.inl ⟨rfl, rfl, rfl, rfl⟩)).mono fun e w' ⟨he, hg⟩ => ⟨he, hg.below⟩
    · have hn : ¬ (rightP y m d ∧ rightP y' m' d') := fun h => h2 h.2
      exact (law_counts_core y m d y' m' d' 0 31 0 31 _ 0 0 31 w hL (fun W hW => actual_no W hy hy' hW hn) (fun W hW => thirty_no W hy hy' hW hn) (fun W => rthirty_no W hy hy' hn) (fun W => rnumber_yes y m d W h1) (fun W => rnumber_no y' m' d' W hy' h2) (by omega) (by omega) (Or.inr ⟨by omega, rfl, rfl⟩)).mono fun e w' ⟨he, hg⟩ => ⟨he, hg.below⟩
  · have hn : ¬ (rightP y m d ∧ rightP y' m' d') := fun h => h1 h.1
    by_cases h2 : rightP y' m' d'
    · have n2 := num_in h2
      exact (law_counts_core y m d y' m' d' 0 31 0 31 0 31 _ 0 w hL (fun W hW => actual_no W hy hy' hW hn) (fun W hW => thirty_no W hy hy' hW hn) (fun W => rthirty_no W hy hy' hn) (fun W => rnumber_no y m d W hy h1) (fun W => rnumber_yes y' m' d' W h2) (by omega) (by omega) (Or.inr ⟨by omega, rfl, rfl⟩)).mono fun e w' ⟨he, hg⟩ => ⟨he, hg.below⟩
    · exact (law_counts_core y m d y' m' d' 0 31 0 31 0 31 0 31 w hL (fun W hW => actual_no W hy hy' hW hn) (fun W hW => thirty_no W hy hy' hW hn) (fun W => rthirty_no W hy hy' hn) (fun W => rnumber_no y m d W hy h1) (fun W => rnumber_no y' m' d' W hy' h2) (by omega) (by omega) (Or.inr ⟨by omega, rfl, rfl⟩)).mono fun e w' ⟨he, hg⟩ => ⟨he, hg.below⟩
end Go.Proofs.YtijhfjehdpgjmaaDoor
