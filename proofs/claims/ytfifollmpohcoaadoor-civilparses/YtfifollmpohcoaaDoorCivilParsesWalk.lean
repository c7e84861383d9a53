/- The walk of falseworklaw03.CivilParses. -/
import Derived.Test.YtfifollmpohcoaaDoorCivBox
import Derived.Test.YtfifollmpohcoaaDoorCivG
import Derived.Test.YtfifollmpohcoaaDoorCivN
namespace Go.Proofs.YtfifollmpohcoaaDoor
open Go.RowKit Go.Sort

set_option maxHeartbeats 400000 in
theorem parses_core (s : ByteArray) (y m d er : Int) (w : World) (hL : Lens w)
    (A : ∀ W, Lens W → Calls Tryd.prog 25 #[.string s] W fun e w' => e = .returned (.tuple #[.agg #[.int .i64 y, .int .i64 m, .int .i64 d], .int .i64 er]) ∧ Gr W w')
    (B : ∀ W, Calls Tryd.prog 26 #[.string s] W fun e w' => e = .returned (.tuple #[.agg #[.int .i64 y, .int .i64 m, .int .i64 d], .int .i64 er]) ∧ Gr W w') :
    Calls Tryd.prog 6 #[.string s] w fun e w' => e = .returned (.bool true) ∧ Gr w w' := by
  have HA := Lib.hid A
  have HB := Lib.hid B
  have HL := Lib.hid hL
  clear hL A B
  go_enter Tryd.func6, Tryd.ntmps6
  go_wp2_with fail
  refine (alive_any _ HL.out).mono ?_
  rintro e w1 ⟨rfl, hg1⟩
  have HG1 := Lib.hid hg1
  clear hg1
  go_wp2_with fail
  refine (HA.out _ (HL.out.gr HG1.out)).mono ?_
  rintro e w2 ⟨rfl, hg2⟩
  have HG2 := Lib.hid (HG1.out.trans hg2)
  clear hg2
  go_wp2_with fail
  refine (HB.out _).mono ?_
  rintro e w3 ⟨rfl, hg3⟩
  obtain ⟨z3, a3, b3, c3⟩ := (Box.made w2 y m d).gr hg3
  have HG3 := Lib.hid ((HG2.out.alloc _).trans hg3)
  clear hg3
  go_wp2
  go_ret
  exact ⟨rfl, by repeat' (first | (with_reducible exact HG3.out) | with_reducible apply Gr.alloc)⟩

theorem civilParses_walk (s : ByteArray) (w : World) (hL : Lens w) : Calls Tryd.prog 6 #[.string s] w fun e w' => e = .returned (.bool true) ∧ Below w.heap.size w w' := by
  by_cases hs : ∃ y m d, rightP y m d ∧ textB y m d = s
  · obtain ⟨y, m, d, hr, rfl⟩ := hs
    exact (parses_core _ y m d 0 w hL (fun W h => parse_yes W h hr) (fun W => rparse_yes W hr)).mono fun e w' ⟨he, hg⟩ => ⟨he, hg.below⟩
  · have hs' : ∀ y m d, rightP y m d → textB y m d ≠ s := fun y m d h e => hs ⟨y, m, d, h, e⟩
    exact (parses_core s 0 0 0 31 w hL (fun W h => parse_no s W h hs') (fun W => rparse_no s W hs')).mono fun e w' ⟨he, hg⟩ => ⟨he, hg.below⟩
end Go.Proofs.YtfifollmpohcoaaDoor
