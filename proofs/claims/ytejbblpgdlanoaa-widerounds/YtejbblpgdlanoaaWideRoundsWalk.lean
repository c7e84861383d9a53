/- The walk of falseworklaw01.WideRounds. -/
import Derived.Test.YtejbblpgdlanoaaAlive1
import Derived.Test.YtejbblpgdlanoaaRefK
namespace Go.Proofs.Ytejbblpgdlanoaa
open Go.RowKit

set_option maxHeartbeats 2000000 in
theorem wideRounds_walk (a b c : Int) (wa : (Lit.int .i64 a).wf = true) (wb : (Lit.int .i64 b).wf = true) (wc : (Lit.int .i64 c).wf = true) (w : World) :
    Calls Try.prog 4 #[.int .i64 a, .int .i64 b, .int .i64 c] w fun e w' => e = .returned (.bool true) ∧ Below w.heap.size w w' := by
  have ha := I_of_wf wa
  have hb := I_of_wf wb
  have hc := I_of_wf wc
  clear wa wb wc
  have A1 := fun w => Lib.hid (floor_any a b c w ha hb hc)
  have A2 := fun w => Lib.hid (refFloor_any a b c w ha hb hc)
  have A3 := fun w => Lib.hid (even_any a b c w ha hb hc)
  have A4 := fun w => Lib.hid (refEven_any a b c w ha hb hc)
  clear ha hb hc
  generalize flV (a * b) c = p at *
  generalize flE (a * b) c = q at *
  generalize evV (a * b) c = r at *
  generalize evE (a * b) c = s at *
  go_enter Try.func4, Try.ntmps4
  go_wp2_with fail
  refine (alive_any _).mono ?_
  rintro e w1 ⟨rfl, h1⟩
  go_wp2_with fail
  refine (A1 _).out.mono ?_
  rintro e w2 ⟨rfl, h2⟩
  go_wp2_with fail
  refine (A2 _).out.mono ?_
  rintro e w3 ⟨rfl, h3⟩
  go_wp2_with fail
  refine (A3 _).out.mono ?_
  rintro e w4 ⟨rfl, h4⟩
  go_wp2_with fail
  refine (A4 _).out.mono ?_
  rintro e w5 ⟨rfl, h5⟩
  go_wp2
  go_ret
  exact ⟨by simp, bl_trans (bl_trans (bl_trans (bl_trans h1 h2) h3) h4) h5⟩

end Go.Proofs.Ytejbblpgdlanoaa
