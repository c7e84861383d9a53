/- The chapter's example, as every law asks it. -/
import Derived.Test.YtfifollmpohcoaaDoorCivD
import Derived.Test.YtfifollmpohcoaaDoorCivF
namespace Go.Proofs.YtfifollmpohcoaaDoor
open Go.RowKit Go.Sort

/-- what Of answers, where the date is known -/
theorem of_at {y m d n : Int} (W : World) (h : Lens W) (hr : rightP y m d) (hn : numF y m d = n) : Calls Tryd.prog 10 #[.int .i64 n] W fun e w' => e = .returned (.tuple #[.agg #[.int .i64 y, .int .i64 m, .int .i64 d], .int .i64 0]) ∧ Gr W w' := by
  obtain ⟨_, _, h0, h1⟩ := num_in hr
  refine (of_yes n W h (by omega) (by omega)).mono ?_
  rintro e w' ⟨⟨y', m', d', hr', hn', rfl⟩, hg⟩
  obtain ⟨rfl, rfl, rfl⟩ := num_inj hr' hr (hn'.trans hn.symm)
  exact ⟨rfl, hg⟩
theorem right0 : rightP 2000 2 29 := by decide
theorem num0 : numF 2000 2 29 = 36583 := by decide
theorem text0 : textB 2000 2 29 = ⟨#[50, 48, 48, 48, 45, 48, 50, 45, 50, 57]⟩ := by decide

set_option maxHeartbeats 400000 in
theorem alive_any (w : World) (hL : Lens w) : Calls Tryd.prog 12 #[] w fun e w' => e = .returned (.bool true) ∧ Gr w w' := by
  have A : ∀ W, Lens W → Hid (Calls Tryd.prog 11 #[.agg #[.int .i64 2000, .int .i64 2, .int .i64 29]] W fun e w' => e = .returned (.tuple #[.int .i64 36583, .int .i64 0]) ∧ Gr W w') := fun W h => Lib.hid (by have := number_yes 2000 2 29 W h right0; rwa [num0] at this)
  have B : ∀ W, Lens W → Hid (Calls Tryd.prog 10 #[.int .i64 36583] W fun e w' => e = .returned (.tuple #[.agg #[.int .i64 2000, .int .i64 2, .int .i64 29], .int .i64 0]) ∧ Gr W w') := fun W h => Lib.hid (by
    refine (of_yes 36583 W h (by omega) (by omega)).mono ?_
    rintro e w' ⟨⟨y, m, d, hr, hn, rfl⟩, hg⟩
    obtain ⟨rfl, rfl, rfl⟩ := num_inj hr right0 (hn.trans num0.symm)
    exact ⟨rfl, hg⟩)
  have C : ∀ W, Hid (Calls Tryd.prog 23 #[.int .i64 36583] W fun e w' => e = .returned (.int .i64 1) ∧ W = w') := fun W => week_any 36583 W ⟨by omega, by omega⟩
  have D : ∀ W, Lens W → Hid (Calls Tryd.prog 20 #[.agg #[.int .i64 2000, .int .i64 2, .int .i64 29]] W fun e w' => e = .returned (.string ⟨#[50, 48, 48, 48, 45, 48, 50, 45, 50, 57]⟩) ∧ Gr W w') := fun W h => Lib.hid (by have := text_yes 2000 2 29 W h right0; rwa [text0] at this)
  have HL := Lib.hid hL
  clear hL
  go_enter Tryd.func12, Tryd.ntmps12
  go_wp2_with fail
  refine (A _ (HL.out.gr ((Gr.refl _).alloc _))).out.mono ?_
  rintro e w1 ⟨rfl, hg⟩
  obtain ⟨c0, c1, c2⟩ := boxed w 2000 2 29 23
  have hS : w.heap.size < (w.alloc (Obj.cells #[Value.int IntKind.i64 2000, Value.int IntKind.i64 2, Value.int IntKind.i64 29] 23)).heap.size := by simp
  have e0 := gcell hg hS c0
  have e1 := gcell hg hS c1
  have e2 := gcell hg hS c2
  have HS1 := Lib.hid (Nat.lt_of_lt_of_le hS hg.size)
  have HG := Lib.hid (((Gr.refl _).alloc _).trans hg)
  clear hg c0 c1 c2 hS A
  go_wp2_with fail
  refine (B _ (HL.out.gr HG.out)).out.mono ?_
  rintro e w2 ⟨rfl, hg⟩
  have f0 := gcell hg HS1.out e0
  have f1 := gcell hg HS1.out e1
  have f2 := gcell hg HS1.out e2
  have HS2 := Lib.hid (Nat.lt_of_lt_of_le HS1.out hg.size)
  have HG2 := Lib.hid (HG.out.trans hg)
  clear hg e0 e1 e2 B HG HS1
  have hS2 := HS2.out
  go_wp2_with fail
  refine (C _).out.mono ?_
  rintro e w3 ⟨rfl, rfl⟩
  go_wp2_with fail
  refine (D _ (HL.out.gr (HG2.out.alloc _))).out.mono ?_
  rintro e w3 ⟨rfl, hg⟩
  have HG3 := Lib.hid ((HG2.out.alloc _).trans hg)
  clear hg
  go_wp2
  go_ret
  exact ⟨rfl, HG3.out⟩
end Go.Proofs.YtfifollmpohcoaaDoor
