/- falseworklaw05.rateAlive; Percent; the functions of package math. -/
import Derived.Test.YtgokihclfdkgeaaRtA
namespace Go.Proofs.Ytgokihclfdkgeaa
open Go.RowKit Go.Sort

theorem pts_425 : pts 4616471093031469056 = 425 := by decide +kernel
theorem pts_one : pts 4572414629676717179 = 1 := by decide +kernel
theorem one_reset (w : World) (x y : Int) (t : TypeId) : RsAt (w.alloc (.cells #[.int .i64 x, .int .i64 y] t)) (some ⟨w.heap.size, 0, none⟩) [(x, y)] := by
  refine Or.inr ⟨w.heap.size, 0, rfl, by simp, fun i hi => ?_⟩
  obtain rfl : i = 0 := by simp at hi; exact hi
  simp

set_option maxHeartbeats 800000 in
theorem alive_any (w : World) : Calls Try.prog 15 #[] w fun e w' => e = .returned (.bool true) ∧ Gr w w' := by
  have P1 : ∀ W, Hid (Calls Try.prog 9 #[.float .f64 4616471093031469056] W fun r w' => r = .returned (.tuple #[.int .i64 425, .int .i64 0]) ∧ W = w') := fun W => Lib.hid (by have := points_yes 4616471093031469056 W (Or.inl (by decide)); rw [pts_425] at this; exact this)
  have P2 : ∀ W, Hid (Calls Try.prog 9 #[.float .f64 4572414629676717179] W fun r w' => r = .returned (.tuple #[.int .i64 1, .int .i64 0]) ∧ W = w') := fun W => Lib.hid (by have := points_yes 4572414629676717179 W (Or.inl (by decide)); rw [pts_one] at this; exact this)
  have P3 : ∀ W : World, Hid (Calls Try.prog 14 #[.agg #[.int .i64 250, .int .i64 300, .int .i64 900], .slice (some ⟨W.heap.size, 0, none⟩) 1 1, .int .i64 7] (W.alloc (.cells #[.int .i64 5, .int .i64 400] 42)) fun r w' => r = .returned (.tuple #[.int .i64 650, .int .i64 0]) ∧ Gr (W.alloc (.cells #[.int .i64 5, .int .i64 400] 42)) w') := fun W => Lib.hid (by
    have := rate_any 250 300 900 (some ⟨W.heap.size, 0, none⟩) [(5, 400)] 1 7 _ (one_reset W 5 400 42) (by decide)
    rw [show rtV 250 300 900 [(5, 400)] 7 = 650 from by decide, show rtE 250 300 900 [(5, 400)] 7 = 0 from by decide] at this
    exact this)
  go_enter Try.func15, Try.ntmps15
  go_wp2_with fail
  refine (P1 _).out.mono ?_
  rintro _ w1 ⟨rfl, rfl⟩
  go_wp2_with fail
  refine (P2 _).out.mono ?_
  rintro _ w1 ⟨rfl, rfl⟩
  go_wp2_with fail
  refine (P3 _).out.mono ?_
  rintro _ w1 ⟨rfl, hg⟩
  have HG := Lib.hid (((Gr.refl _).alloc _).trans hg)
  clear hg
  go_wp2
  go_ret
  exact ⟨rfl, HG.out⟩

end Go.Proofs.Ytgokihclfdkgeaa
