/- The walk of falseworklaw03.CivilCounts. -/
import Derived.Test.YtfifollmpohcoaaDoorCivG
import Derived.Test.YtfifollmpohcoaaDoorCivE
namespace Go.Proofs.YtfifollmpohcoaaDoor
open Go.RowKit Go.Sort

theorem rof_at {y m d n : Int} (W : World) (hr : rightP y m d) (hn : numF y m d = n) : Calls Tryd.prog 22 #[.int .i64 n] W fun e w' => e = .returned (.tuple #[.agg #[.int .i64 y, .int .i64 m, .int .i64 d], .int .i64 0]) ∧ Gr W w' := by
  obtain ⟨_, _, h0, h1⟩ := num_in hr
  refine (rof_yes n W (by omega) (by omega)).mono ?_
  rintro e w' ⟨⟨y', m', d', hr', hn', rfl⟩, hg⟩
  obtain ⟨rfl, rfl, rfl⟩ := num_inj hr' hr (hn'.trans hn.symm)
  exact ⟨rfl, hg⟩

set_option maxHeartbeats 400000 in
/-- behind both answers, which are the same one -/
theorem counts_core (n y m d er : Int) (w : World) (hn : I n) (hL : Lens w)
    (A : ∀ W, Lens W → Calls Tryd.prog 10 #[.int .i64 n] W fun e w' => e = .returned (.tuple #[.agg #[.int .i64 y, .int .i64 m, .int .i64 d], .int .i64 er]) ∧ Gr W w')
    (B : ∀ W, Calls Tryd.prog 22 #[.int .i64 n] W fun e w' => e = .returned (.tuple #[.agg #[.int .i64 y, .int .i64 m, .int .i64 d], .int .i64 er]) ∧ Gr W w') :
    Calls Tryd.prog 5 #[.int .i64 n] w fun e w' => e = .returned (.bool true) ∧ Gr w w' := by
  have HA := Lib.hid A
  have HB := Lib.hid B
  have C : ∀ W, Hid (Calls Tryd.prog 23 #[.int .i64 n] W fun e w' => e = .returned (.int .i64 (n % 7)) ∧ W = w') := fun W => week_any n W hn
  have D : ∀ W, Hid (Calls Tryd.prog 24 #[.int .i64 n] W fun e w' => e = .returned (.int .i64 (n % 7)) ∧ W = w') := fun W => rweek_any n W hn
  have HL := Lib.hid hL
  clear hL A B hn
  generalize n % 7 = v at *
  go_enter Tryd.func5, Tryd.ntmps5
  go_wp2_with fail
  refine (alive_any _ HL.out).mono ?_
  rintro e w1 ⟨rfl, hg1⟩
  have HG1 := Lib.hid hg1
  clear hg1
  go_wp2_with fail
  refine (HA.out _ (HL.out.gr HG1.out)).mono ?_
  rintro e w2 ⟨rfl, hg2⟩
  have HG2 := Lib.hid (HG1.out.trans hg2)
  clear hg2
  go_wp2_with fail
  refine (HB.out _).mono ?_
  rintro e w3 ⟨rfl, hg3⟩
  obtain ⟨c0, c1, c2⟩ := boxed w2 y m d 23
  have hS : w2.heap.size < (w2.alloc (Obj.cells #[Value.int IntKind.i64 y, Value.int IntKind.i64 m, Value.int IntKind.i64 d] 23)).heap.size := by simp
  have e0 := gcell hg3 hS c0
  have e1 := gcell hg3 hS c1
  have e2 := gcell hg3 hS c2
  have hS3 := Nat.lt_of_lt_of_le hS hg3.size
  have HG3 := Lib.hid ((HG2.out.alloc _).trans hg3)
  clear hg3 c0 c1 c2 hS
  go_wp2_with fail
  refine (C _).out.mono ?_
  rintro e w4 ⟨rfl, rfl⟩
  go_wp2_with fail
  refine (D _).out.mono ?_
  rintro e w4 ⟨rfl, rfl⟩
  go_wp2
  go_ret
  exact ⟨rfl, by repeat' (first | (with_reducible exact HG3.out) | with_reducible apply Gr.alloc)⟩

theorem civilCounts_walk (n : Int) (w : World) (hn : I n) (hL : Lens w) : Calls Tryd.prog 5 #[.int .i64 n] w fun e w' => e = .returned (.bool true) ∧ Below w.heap.size w w' := by
  by_cases h : n < 0 ∨ 146097 ≤ n
  · exact (counts_core n 0 0 0 31 w hn hL (fun W _ => of_no n W h) (fun W => rof_no n W h)).mono fun e w' ⟨he, hg⟩ => ⟨he, hg.below⟩
  · obtain ⟨y, m, d, hr, hd⟩ := date_of n (by omega) (by omega)
    exact (counts_core n y m d 0 w hn hL (fun W hW => of_at W hW hr hd) (fun W => rof_at W hr hd)).mono fun e w' ⟨he, hg⟩ => ⟨he, hg.below⟩
end Go.Proofs.YtfifollmpohcoaaDoor
