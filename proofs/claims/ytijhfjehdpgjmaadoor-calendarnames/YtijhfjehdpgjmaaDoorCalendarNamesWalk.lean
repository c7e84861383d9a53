/- The walk of falseworklaw04.CalendarNames. -/
import Derived.Test.YtijhfjehdpgjmaaDoorCalAlive
import Derived.Test.YtijhfjehdpgjmaaDoorCalAct
namespace Go.Proofs.YtijhfjehdpgjmaaDoor
open Go.RowKit Go.Sort

theorem info64 : ∃ i, Tryd.prog.info? 2 = some i ∧ i.zero = some (.int .i64 0) ∧ i.size = 1 ∧ i.bytes = 8 := by
  have h : (Tryd.prog.info? 2).map (fun i => (i.zero, i.size, i.bytes)) = some (some (.int .i64 0), 1, 8) := by kernel_rfl
  cases hi : Tryd.prog.info? 2 with
  | none => rw [hi] at h; cases h
  | some i =>
    rw [hi] at h
    simp only [Option.map_some, Option.some.injEq, Prod.mk.injEq] at h
    exact ⟨i, rfl, h.1, h.2.1, h.2.2⟩
/-- a slice of so many numbers 0 -/
def zeros : Obj := .cells (Builtin.zeroCells (Value.int .i64 0).cells 513) 2
theorem mk513 (w : World) : (Instr.makeSlice 27 (.int .i64 513) (.int .i64 513)).run Tryd.prog w = .ok (.slice (some ⟨w.heap.size, 0, none⟩) 513 513) (w.alloc zeros) := by
  obtain ⟨i, hi, hz, h1, h8⟩ := info64
  have h := run_make (P := Tryd.prog) w 27 2 i (.int .i64 0) Tryd.underlying27 hi hz .i64 .i64 513 513 (by omega) (Int.le_refl _) (by rw [h8]; omega) (by omega)
  rw [h1, Nat.mul_one] at h
  exact h

set_option maxHeartbeats 800000 in
theorem calendarNames_walk (w : World) (hL : Lens w) : Calls Tryd.prog 3 #[] w fun e w' => e = .returned (.bool true) ∧ Below w.heap.size w w' := by
  have A := Lib.hid (alive_any w hL)
  have B : ∀ a W, Hid (Calls Tryd.prog 11 #[.slice a 513 513] W fun e w' => e = .returned (.tuple #[.pointer none, .int .i64 41]) ∧ W = w') := fun a W => new_many a 513 513 W (by omega) (by omega)
  have C : ∀ W, Hid (Calls Tryd.prog 11 #[.slice none 0 0] W (NewYes [] W)) := fun W => new_any none [] 0 W (Or.inl rfl) (by simp) (by simp)
  have D : ∀ b W, Cal W b [] → Lens W → Hid (Calls Tryd.prog 12 #[.pointer (some ⟨b, 0, none⟩), .int .i64 (-1)] W fun e w' => e = .returned (.tuple #[.int .i64 0, .int .i64 41]) ∧ Gr W w') := fun b W h h2 => Lib.hid (by have := roll_any b [] (-1) W ⟨by omega, by omega⟩ h h2; rwa [seek_none_out (by omega)] at this)
  have E : ∀ W, Lens W → Hid (Calls Tryd.prog 13 #[.agg #[.int .i64 0, .int .i64 0, .int .i64 0], .agg #[.int .i64 2000, .int .i64 1, .int .i64 1]] W fun e w' => e = .returned (.tuple #[.int .i64 0, .int .i64 31]) ∧ Gr W w') := fun W h => actual_no W ⟨by omega, by omega⟩ ⟨by omega, by omega⟩ h (by decide)
  have hmk := mk513
  have HL := Lib.hid hL
  clear hL
  go_enter Tryd.func3, Tryd.ntmps3
  go_wp2_with fail
  refine A.out.mono ?_
  rintro e w1 ⟨rfl, hg1⟩
  have HG1 := Lib.hid hg1
  clear hg1 A
  go_wp2_with fail
  refine (B _ _).out.mono ?_
  rintro e w2 ⟨rfl, rfl⟩
  have HG2 := Lib.hid (HG1.out.alloc zeros)
  clear B HG1 hmk
  generalize w1.alloc zeros = w2 at *
  go_wp2_with fail
  refine (C _).out.mono ?_
  rintro e w3 ⟨⟨b, rfl, hc⟩, hg3⟩
  have HG3 := Lib.hid (HG2.out.trans hg3)
  have HC := Lib.hid hc
  clear hg3 C hc HG2
  go_wp2_with fail
  refine (D b _ HC.out (HL.out.gr HG3.out)).out.mono ?_
  rintro e w4 ⟨rfl, hg4⟩
  have HG4 := Lib.hid (HG3.out.trans hg4)
  clear hg4 D HG3 HC
  go_wp2_with fail
  refine (E _ (HL.out.gr HG4.out)).out.mono ?_
  rintro e w5 ⟨rfl, hg5⟩
  have HG5 := Lib.hid (HG4.out.trans hg5)
  clear hg5 E
  go_wp2
  go_ret
  exact ⟨rfl, HG5.out.below⟩
end Go.Proofs.YtijhfjehdpgjmaaDoor
