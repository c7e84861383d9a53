/- The walk of falseworklaw05.RateTells. -/
import Derived.Test.YtgokihclfdkgeaaRtN
import Derived.Test.YtgokihclfdkgeaaRtO
namespace Go.Proofs.Ytgokihclfdkgeaa
open Go.RowKit Go.Sort

set_option maxHeartbeats 1600000 in
theorem tells_long (m f c d : Int) (a : Option Addr) (len cap : Nat) (w : World) (h : 100 < len) :
    Calls Try.prog 6 #[.agg #[.int .i64 m, .int .i64 f, .int .i64 c], .slice a len cap, .int .i64 d] w fun e w' => e = .returned (.bool true) ∧ RowKit.Below w.heap.size w w' := by
  have d1 : decide ((100 : Int) < (len : Int)) = true := by simp; omega
  go_enter Try.func6, Try.ntmps6
  go_wp2_with fail
  refine (alive_any _).mono ?_
  rintro _ w1 ⟨rfl, hg1⟩
  have HG1 := Lib.hid (((Gr.refl _).alloc _).trans hg1)
  clear hg1
  go_wp2
  go_ret
  exact ⟨rfl, HG1.out.below⟩

set_option maxHeartbeats 1600000 in
set_option maxRecDepth 100000 in
theorem tells_core (m f c d : Int) (a : Option Addr) (l : List Rs) (cap : Nat) (w : World) (hr : RsAt w a l) (hl : l.length ≤ 100) :
    Calls Try.prog 6 #[.agg #[.int .i64 m, .int .i64 f, .int .i64 c], .slice a l.length cap, .int .i64 d] w fun e w' => e = .returned (.bool true) ∧ RowKit.Below w.heap.size w w' := by
  have d1 : decide ((100 : Int) < (l.length : Int)) = false := by simp; omega
  have HR := Lib.hid hr
  have HM := Lib.hid (TBox.made w m f c 33)
  have R1 : ∀ W, RsAt W a l → Hid (Calls Try.prog 14 #[.agg #[.int .i64 m, .int .i64 f, .int .i64 c], .slice a l.length cap, .int .i64 d] W fun e w' => e = .returned (.tuple #[.int .i64 (rtV m f c l d), .int .i64 (rtE m f c l d)]) ∧ Gr W w') := fun W h => Lib.hid (rate_any m f c a l cap d W h (by omega))
  have R2 : ∀ W, RsAt W a l → Hid (Calls Try.prog 24 #[.agg #[.int .i64 m, .int .i64 f, .int .i64 c], .slice a l.length cap, .int .i64 d] W fun e w' => e = .returned (.tuple #[.int .i64 (rtV m f c l d), .int .i64 (rtE m f c l d)]) ∧ Gr W w') := fun W h => Lib.hid (rrate_any m f c a l cap d W h (by omega))
  have T : ∀ W, RsAt W a l → Hid (Calls Try.prog 19 #[.slice a l.length cap] W fun e w' => e = .returned (.bool (tabB l)) ∧ Gr W w') := fun W h => Lib.hid (rtable_any a l cap W h (by omega))
  have A1 : ∀ W, RsAt W a l → Hid (Calls Try.prog 25 #[.slice a l.length cap, .int .i64 d] W fun e w' => e = .returned (.tuple #[.int .i64 (atV (atF l d)), .bool (atB (atF l d))]) ∧ Gr W w') := fun W h => Lib.hid (at_any a l cap d W h (by omega))
  have A2 : ∀ W, RsAt W a l → Hid (Calls Try.prog 26 #[.slice a l.length cap, .int .i64 d] W fun e w' => e = .returned (.tuple #[.int .i64 (atV (atF l d)), .bool (atB (atF l d))]) ∧ W = w') := fun W h => Lib.hid (rat_any a l cap d W h (by omega))
  clear hr
  generalize rtV m f c l d = v at *
  generalize rtE m f c l d = e at *
  generalize tabB l = t at *
  generalize atV (atF l d) = x at *
  generalize atB (atF l d) = y at *
  go_enter Try.func6, Try.ntmps6
  go_wp2_with fail
  refine (alive_any _).mono ?_
  rintro _ w1 ⟨rfl, hg1⟩
  have HG1 := Lib.hid (((Gr.refl _).alloc _).trans hg1)
  have HM1 := Lib.hid (HM.out.gr hg1)
  obtain ⟨_, k0, k1, k2⟩ := HM1.out
  clear hg1 HM
  go_wp2_with fail
  refine (R1 _ (HR.out.gr HG1.out)).out.mono ?_
  rintro _ w2 ⟨rfl, hg2⟩
  have HG2 := Lib.hid (HG1.out.trans hg2)
  have HM2 := Lib.hid (HM1.out.gr hg2)
  clear k0 k1 k2
  obtain ⟨_, k0, k1, k2⟩ := HM2.out
  clear hg2 HM1 R1
  go_wp2_with fail
  refine (R2 _ (HR.out.gr HG2.out)).out.mono ?_
  rintro _ w3 ⟨rfl, hg3⟩
  have HG3 := Lib.hid (HG2.out.trans hg3)
  clear k0 k1 k2 hg3 R2
  go_wp2_with fail
  refine (T _ (HR.out.gr HG3.out)).out.mono ?_
  rintro _ w4 ⟨rfl, hg4⟩
  have HG4 := Lib.hid (HG3.out.trans hg4)
  clear hg4 T
  cases t
  · go_wp2
    go_ret
    exact ⟨rfl, HG4.out.below⟩
  · go_wp2_with fail
    refine (A1 _ (HR.out.gr HG4.out)).out.mono ?_
    rintro _ w5 ⟨rfl, hg5⟩
    have HG5 := Lib.hid (HG4.out.trans hg5)
    clear hg5 A1
    go_wp2_with fail
    refine (A2 _ (HR.out.gr HG5.out)).out.mono ?_
    rintro _ _ ⟨rfl, rfl⟩
    clear A2
    go_wp2
    go_ret
    exact ⟨by simp, HG5.out.below⟩

theorem rateTells_walk (m f c : Int) (a : Option Addr) (len cap : Nat) (l : List Rs) {w : World} (h : CameRs w a len cap l) (d : Int) (_hd : (Lit.int .i64 d).wf = true) (w1 : World) (e : w1 = w := by rfl) :
    Calls Try.prog 6 #[.agg #[.int .i64 m, .int .i64 f, .int .i64 c], .slice a len cap, .int .i64 d] w1 fun e w' => e = .returned (.bool true) ∧ RowKit.Below w1.heap.size w1 w' := by
  subst e
  obtain ⟨hr, rfl, _⟩ := h
  by_cases hl : 100 < l.length
  · exact tells_long m f c d a l.length cap w1 hl
  · exact tells_core m f c d a l cap w1 hr (by omega)
end Go.Proofs.Ytgokihclfdkgeaa
