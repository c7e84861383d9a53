/- falseworkref05.Same, of two slices that hold the same resets. -/
import Derived.Test.YtgokihclfdkgeaaRtT
namespace Go.Proofs.Ytgokihclfdkgeaa
open Go.RowKit Go.Sort

set_option maxHeartbeats 1600000 in
theorem rsame_yes (a b : Option Addr) (l : List Rs) (ca cb : Nat) (w : World) (ha : RsAt w a l) (hb : RsAt w b l) (hl : l.length ≤ 1000) :
    Calls Try.prog 23 #[.slice a l.length ca, .slice b l.length cb] w fun e w' => e = .returned (.bool true) ∧ Gr w w' := by
  have HA := Lib.hid ha
  have HB := Lib.hid hb
  clear ha hb
  go_enter Try.func23, Try.ntmps23
  go_wp2
  go_loopg [13] l.length (fun g c13 wr => ∃ i : Nat, c13 = .int .i64 i ∧ i + g = l.length ∧ Hid (Gr w wr))
  case atStart => exact ⟨0, rfl, by omega, Lib.hid (Gr.refl _)⟩
  case round =>
    obtain ⟨i, rfl, hi, HG⟩ := hrel
    by_cases hlt : i < l.length
    · have hlz : (i : Int) < (l.length : Int) := by omega
      have hz : (0 : Int) ≤ (i : Int) := by omega
      obtain ⟨b1, off1, rfl, hb1, hc1⟩ := (HA.out.gr HG.out).at hlt
      obtain ⟨b2, off2, rfl, hb2, hc2⟩ := (HB.out.gr HG.out).at hlt
      obtain ⟨c0, c1⟩ := hc1 i hlt
      obtain ⟨c2, c3⟩ := hc2 i hlt
      clear hc1 hc2
      generalize rsD l i = D at *
      generalize rsX l i = X at *
      go_wp2_with fail
      go_quiet (fail)
      go_wp2
      go_roundg (gk - 1)
      case measure => omega
      case rel => exact ⟨i + 1, by go_num, by omega, Lib.hid (HG.out.drewN _)⟩
    · have hlz : ¬ (i : Int) < (l.length : Int) := by omega
      go_wp2
      go_ret
      exact ⟨rfl, HG.out⟩
end Go.Proofs.Ytgokihclfdkgeaa
