/- The chapter's examples, as every law asks them. -/
import Derived.Test.YtijhfjehdpgjmaaDoorCalMod
import Derived.Test.YtijhfjehdpgjmaaDoorCalMon
namespace Go.Proofs.YtijhfjehdpgjmaaDoor
open Go.RowKit Go.Sort

theorem row_one (w : World) (x : Int) (t : TypeId) : RowAt (w.alloc (.cells #[.int .i64 x] t)) (some ⟨w.heap.size, 0, none⟩) [x] := by
  refine Or.inr ⟨w.heap.size, 0, rfl, by simp, fun i hi => ?_⟩
  obtain rfl : i = 0 := by simp at hi; omega
  simp [go_sem]
theorem seek_alive : seekF [0] 1 32 0 = some 1 := by rw [seek_miss (by decide) (by decide), seek_hit (by decide) (by decide)]; rfl

theorem ok1 : okM 2024 1 31 1 := by decide
theorem ok2 : okM 2024 2 29 12 := by decide
theorem val1 : mY 2024 1 1 = 2024 ∧ mM 2024 1 1 = 2 ∧ mD 2024 1 31 1 = 29 := by decide
theorem val2 : mY 2024 2 12 = 2025 ∧ mM 2024 2 12 = 2 ∧ mD 2024 2 29 12 = 28 := by decide
theorem biz0 : decide (biz [0] 0) = false := by decide
theorem biz1 : decide (biz [0] 1) = true := by decide

set_option maxHeartbeats 1600000 in
theorem alive_any (w : World) (hL : Lens w) : Calls Tryd.prog 10 #[] w fun e w' => e = .returned (.bool true) ∧ Gr w w' := by
  have A : ∀ W, Lens W → Hid (Calls Tryd.prog 14 #[.agg #[.int .i64 2024, .int .i64 1, .int .i64 31], .int .i64 1] W fun e w' => e = .returned (.tuple #[.agg #[.int .i64 2024, .int .i64 2, .int .i64 29], .int .i64 0]) ∧ Gr W w') := fun W h => Lib.hid (by have := months_yes (y := 2024) (m := 1) (d := 31) (n := 1) W h ok1; rwa [val1.1, val1.2.1, val1.2.2] at this)
  have B : ∀ W, Lens W → Hid (Calls Tryd.prog 14 #[.agg #[.int .i64 2024, .int .i64 2, .int .i64 29], .int .i64 12] W fun e w' => e = .returned (.tuple #[.agg #[.int .i64 2025, .int .i64 2, .int .i64 28], .int .i64 0]) ∧ Gr W w') := fun W h => Lib.hid (by have := months_yes (y := 2024) (m := 2) (d := 29) (n := 12) W h ok2; rwa [val2.1, val2.2.1, val2.2.2] at this)
  have C : ∀ (W : World) (p : Nat), p = W.heap.size → Hid (Calls Tryd.prog 11 #[.slice (some ⟨p, 0, none⟩) 1 1] (W.alloc (.cells #[.int .i64 0] 2)) (NewYes [0] (W.alloc (.cells #[.int .i64 0] 2)))) := fun W p hp => Lib.hid (by
    subst hp
    refine new_any _ [0] 1 _ (row_one W 0 2) (fun n hn => ?_) (by simp)
    have : n = 0 := by simpa using hn
    unfold I; omega)
  have D : ∀ b W, Cal W b [0] → Lens W → Hid (Calls Tryd.prog 12 #[.pointer (some ⟨b, 0, none⟩), .int .i64 0] W fun e w' => e = .returned (.tuple #[.int .i64 1, .int .i64 0]) ∧ Gr W w') := fun b W h h2 => Lib.hid (by have := roll_any b [0] 0 W ⟨by omega, by omega⟩ h h2; rwa [seek_alive] at this)
  have E : ∀ b W, Cal W b [0] → Hid (Calls Tryd.prog 23 #[.pointer (some ⟨b, 0, none⟩), .int .i64 0] W fun e w' => e = .returned (.bool false) ∧ Gr W w') := fun b W h => Lib.hid (by have := business_any b [0] 0 W ⟨by omega, by omega⟩ h; rwa [biz0] at this)
  have F : ∀ b W, Cal W b [0] → Hid (Calls Tryd.prog 23 #[.pointer (some ⟨b, 0, none⟩), .int .i64 1] W fun e w' => e = .returned (.bool true) ∧ Gr W w') := fun b W h => Lib.hid (by have := business_any b [0] 1 W ⟨by omega, by omega⟩ h; rwa [biz1] at this)
  have HL := Lib.hid hL
  clear hL
  go_enter Tryd.func10, Tryd.ntmps10
  go_wp2_with fail
  refine (A _ HL.out).out.mono ?_
  rintro e w1 ⟨rfl, hg1⟩
  have HG1 := Lib.hid hg1
  have HX1 := Lib.hid (DBox.made w1 2024 2 29 32)
  clear hg1 A
  go_wp2_with fail
  refine (B _ (HL.out.gr (HG1.out.alloc _))).out.mono ?_
  rintro e w2 ⟨rfl, hg2⟩
  have HG2 := Lib.hid ((HG1.out.alloc _).trans hg2)
  have HX2 := Lib.hid (HX1.out.gr (hg2.alloc (Obj.cells #[Value.int IntKind.i64 2025, Value.int IntKind.i64 2, Value.int IntKind.i64 28] 32)))
  have HY2 := Lib.hid (DBox.made w2 2025 2 28 32)
  have HG2' := Lib.hid (HG2.out.alloc (Obj.cells #[Value.int IntKind.i64 2025, Value.int IntKind.i64 2, Value.int IntKind.i64 28] 32))
  clear hg2 B HX1 HG1 HG2
  generalize w1.heap.size = p at *
  have hsz := Lib.hid (show w2.heap.size + 1 = (w2.alloc (Obj.cells #[Value.int IntKind.i64 2025, Value.int IntKind.i64 2, Value.int IntKind.i64 28] 32)).heap.size by simp)
  go_wp2_with fail
  generalize w2.heap.size = q at *
  generalize w2.alloc (Obj.cells #[Value.int IntKind.i64 2025, Value.int IntKind.i64 2, Value.int IntKind.i64 28] 32) = W2 at *
  refine (C W2 _ hsz.out).out.mono ?_
  rintro e w3 ⟨⟨b, rfl, hc⟩, hg3⟩
  have hg3' := ((Gr.refl W2).alloc (.cells #[.int .i64 0] 2)).trans hg3
  have HG3 := Lib.hid (HG2'.out.trans hg3')
  have HX3 := Lib.hid (HX2.out.gr hg3')
  have HY3 := Lib.hid (HY2.out.gr hg3')
  have HC3 := Lib.hid hc
  clear hg3 hg3' HG2' HX2 HY2 hc C
  go_wp2_with fail
  refine (D b _ HC3.out (HL.out.gr HG3.out)).out.mono ?_
  rintro e w4 ⟨rfl, hg4⟩
  have HG4 := Lib.hid (HG3.out.trans hg4)
  obtain ⟨_, ⟨x0, x1, x2⟩, _, _, _⟩ := HX3.out.gr hg4
  obtain ⟨_, ⟨y0, y1, y2⟩, _, _, _⟩ := HY3.out.gr hg4
  have HC4 := Lib.hid (HC3.out.gr hg4)
  clear hg4 D HG3 HX3 HY3 HC3
  go_wp2_with fail
  refine (E b _ HC4.out).out.mono ?_
  rintro e w5 ⟨rfl, hg5⟩
  have HG5 := Lib.hid (HG4.out.trans hg5)
  have HC5 := Lib.hid (HC4.out.gr hg5)
  clear hg5 E HG4 HC4
  go_wp2_with fail
  refine (F b _ HC5.out).out.mono ?_
  rintro e w6 ⟨rfl, hg6⟩
  have HG6 := Lib.hid (HG5.out.trans hg6)
  clear hg6 F
  go_wp2
  go_ret
  exact ⟨rfl, HG6.out⟩
end Go.Proofs.YtijhfjehdpgjmaaDoor
