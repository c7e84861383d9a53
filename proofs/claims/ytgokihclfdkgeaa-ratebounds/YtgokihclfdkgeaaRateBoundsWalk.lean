/- The walk of falseworklaw05.RateBounds. -/
import Derived.Test.YtgokihclfdkgeaaRtN
import Derived.Test.YtgokihclfdkgeaaRtD
import Derived.Test.YtgokihclfdkgeaaRtO
namespace Go.Proofs.Ytgokihclfdkgeaa
open Go.RowKit Go.Sort

theorem at_behind (l : List Rs) (x y d : Int) (h : d < x) : atF (l ++ [(x, y)]) d = atF l d := by
  unfold atF
  rw [List.filter_append]
  have : decide (x ≤ d) = false := by simp; omega
  rw [List.filter_cons, this]
  simp
theorem rt_in {m f c : Int} {l : List Rs} {d : Int} (h : rtE m f c l d = 0) : f ≤ rtV m f c l d ∧ rtV m f c l d ≤ c := by
  unfold rtE at h
  unfold rtV
  cases hb : rtB m f c l d
  · rw [hb] at h; simp at h
  · rw [if_pos rfl]
    unfold rtB rightB at hb
    simp at hb
    omega
theorem rt_or (m f c : Int) (l : List Rs) (d : Int) : rtE m f c l d = 0 ∨ rtE m f c l d = 52 := by
  unfold rtE; split
  · exact Or.inl rfl
  · exact Or.inr rfl
theorem rt_behind {m f c : Int} {l : List Rs} {x y d : Int} (hk : addOk l x y = true) (h : d < x) : rtV m f c l d = rtV m f c (l ++ [(x, y)]) d ∧ rtE m f c l d = rtE m f c (l ++ [(x, y)]) d := by
  unfold addOk at hk
  rw [Bool.and_eq_true] at hk
  have e : rtB m f c l d = rtB m f c (l ++ [(x, y)]) d := by unfold rtB; rw [hk.1, hk.2, at_behind l x y d h]
  unfold rtV rtE
  rw [e, at_behind l x y d h]
  exact ⟨rfl, rfl⟩

set_option maxHeartbeats 1600000 in
theorem bounds_long (m f c x d : Int) (a : Option Addr) (len cap : Nat) (w : World) (h : 100 < len) :
    Calls Try.prog 8 #[.agg #[.int .i64 m, .int .i64 f, .int .i64 c], .slice a len cap, .agg #[.int .i64 x, .int .i64 d]] w fun e w' => e = .returned (.bool true) ∧ RowKit.Below w.heap.size w w' := by
  have d1 : decide ((100 : Int) < (len : Int)) = true := by simp; omega
  go_enter Try.func8, Try.ntmps8
  go_wp2_with fail
  refine (alive_any _).mono ?_
  rintro _ w1 ⟨rfl, hg1⟩
  have HG1 := Lib.hid ((((Gr.refl _).alloc _).alloc _).trans hg1)
  clear hg1
  go_wp2
  go_ret
  exact ⟨rfl, HG1.out.below⟩

set_option maxHeartbeats 3200000 in
set_option maxRecDepth 100000 in
theorem bounds_core (m f c x d : Int) (a : Option Addr) (l : List Rs) (cap : Nat) (w : World) (hr : RsAt w a l) (hl : l.length ≤ 100) (hcap : l.length ≤ cap) (hnil : a = none → cap = 0) :
    Calls Try.prog 8 #[.agg #[.int .i64 m, .int .i64 f, .int .i64 c], .slice a l.length cap, .agg #[.int .i64 x, .int .i64 d]] w fun e w' => e = .returned (.bool true) ∧ RowKit.Below w.heap.size w w' := by
  have d1 : decide ((100 : Int) < (l.length : Int)) = false := by simp; omega
  have HR := Lib.hid hr
  have HM := Lib.hid (TBox.made w m f c 33)
  have A : ∀ W, RsAt W a l → Hid (Calls Try.prog 18 #[.slice a l.length cap, .agg #[.int .i64 x, .int .i64 77]] W (AddRes l x 77 W)) := fun W h => Lib.hid (add_any a l cap x 77 W h (by omega) hcap hnil)
  have R1 : ∀ W, RsAt W a l → Hid (Calls Try.prog 14 #[.agg #[.int .i64 m, .int .i64 f, .int .i64 c], .slice a l.length cap, .int .i64 d] W fun e w' => e = .returned (.tuple #[.int .i64 (rtV m f c l d), .int .i64 (rtE m f c l d)]) ∧ Gr W w') := fun W h => Lib.hid (rate_any m f c a l cap d W h (by omega))
  have R2 : ∀ v cp W, RsAt W v (l ++ [(x, 77)]) → Hid (Calls Try.prog 14 #[.agg #[.int .i64 m, .int .i64 f, .int .i64 c], .slice v (l.length + 1) cp, .int .i64 d] W fun e w' => e = .returned (.tuple #[.int .i64 (rtV m f c (l ++ [(x, 77)]) d), .int .i64 (rtE m f c (l ++ [(x, 77)]) d)]) ∧ Gr W w') := fun v cp W h => Lib.hid (by have := rate_any m f c v _ cp d W h (by simp; omega); rw [show (l ++ [(x, (77 : Int))]).length = l.length + 1 by simp] at this; exact this)
  have HF := Lib.hid (@rt_behind m f c l x 77 d)
  have HI := Lib.hid (@rt_in m f c (l ++ [(x, 77)]) d)
  have ho := rt_or m f c (l ++ [(x, 77)]) d
  clear hr hnil
  generalize rtV m f c l d = v1 at *
  generalize rtE m f c l d = e1 at *
  generalize rtV m f c (l ++ [(x, 77)]) d = v2 at *
  generalize rtE m f c (l ++ [(x, 77)]) d = e2 at *
  have HO := Lib.hid ho
  clear ho
  go_enter Try.func8, Try.ntmps8
  go_wp2_with fail
  refine (alive_any _).mono ?_
  rintro _ w1 ⟨rfl, hg1⟩
  have HG1 := Lib.hid ((((Gr.refl _).alloc _).alloc _).trans hg1)
  have HM1 := Lib.hid (HM.out.gr (((Gr.refl _).alloc _).trans hg1))
  have HB1 := Lib.hid ((RBox.made (w.alloc (.cells #[.int .i64 m, .int .i64 f, .int .i64 c] 33)) x d 55).gr hg1)
  obtain ⟨hz, b0, b1⟩ := HB1.out
  clear hg1 HM
  have hz' : (w.alloc (.cells #[.int .i64 m, .int .i64 f, .int .i64 c] 33)).heap.size = w.heap.size + 1 := by simp
  rw [hz'] at b0 b1 hz
  clear hz' HB1
  go_wp2_with fail
  refine (A _ (HR.out.gr (HG1.out.alloc _))).out.mono ?_
  intro e w2 hA
  obtain ⟨hg2, hA⟩ := hA
  have HG2 := Lib.hid ((HG1.out.alloc (Obj.cells #[.int .i64 x, .int .i64 77] 42)).trans hg2)
  have HM2 := Lib.hid (HM1.out.gr (((Gr.refl _).alloc (Obj.cells #[.int .i64 x, .int .i64 77] 42)).trans hg2))
  have HX2 := Lib.hid ((RBox.made w1 x 77 42).gr hg2)
  clear hg2 HM1 b0 b1
  rcases hA with ⟨_, rfl⟩ | ⟨hk, v, cp, rfl, hr2⟩
  · go_wp2
    go_ret
    exact ⟨rfl, HG2.out.below⟩
  · have HF2 : Hid (d < x → v1 = v2 ∧ e1 = e2) := Lib.hid (HF.out hk)
    have HR2 := Lib.hid hr2
    clear hk HF hr2
    obtain ⟨_, k0, k1, k2⟩ := HM2.out
    go_wp2_with fail
    refine (R1 _ (HR.out.gr HG2.out)).out.mono ?_
    rintro _ w3 ⟨rfl, hg3⟩
    have HG3 := Lib.hid (HG2.out.trans hg3)
    have HM3 := Lib.hid (HM2.out.gr hg3)
    have HX3 := Lib.hid (HX2.out.gr hg3)
    have HR3 := Lib.hid (HR2.out.gr hg3)
    clear hg3 HM2 HX2 HR2 k0 k1 k2
    obtain ⟨_, k0, k1, k2⟩ := HM3.out
    go_wp2_with fail
    refine (R2 _ _ _ HR3.out).out.mono ?_
    rintro _ w4 ⟨rfl, hg4⟩
    have HG4 := Lib.hid (HG3.out.trans hg4)
    have HM4 := Lib.hid (HM3.out.gr hg4)
    have HX4 := Lib.hid (HX3.out.gr hg4)
    clear hg4 HM3 HX3 HR3 k0 k1 k2
    obtain ⟨_, k0, k1, k2⟩ := HM4.out
    obtain ⟨_, x0, x1⟩ := HX4.out
    clear HM4 HX4
    by_cases hd : d < x
    · obtain ⟨rfl, rfl⟩ := HF2.out hd
      rcases HO.out with h0 | h0
      · subst h0
        obtain ⟨i1, i2⟩ := HI.out rfl
        go_wp2
        go_ret
        exact ⟨rfl, HG4.out.below⟩
      · subst h0
        go_wp2
        go_ret
        exact ⟨rfl, HG4.out.below⟩
    · rcases HO.out with h0 | h0
      · subst h0
        obtain ⟨i1, i2⟩ := HI.out rfl
        go_wp2
        go_ret
        exact ⟨rfl, HG4.out.below⟩
      · subst h0
        go_wp2
        go_ret
        exact ⟨rfl, HG4.out.below⟩

theorem rateBounds_walk (m f c : Int) (a : Option Addr) (len cap : Nat) (l : List Rs) {w : World} (h : CameRs w a len cap l) (x d : Int) (_hx : I x) (_hd : I d) (w1 : World) (e : w1 = w := by rfl) :
    Calls Try.prog 8 #[.agg #[.int .i64 m, .int .i64 f, .int .i64 c], .slice a len cap, .agg #[.int .i64 x, .int .i64 d]] w1 fun e w' => e = .returned (.bool true) ∧ RowKit.Below w1.heap.size w1 w' := by
  subst e
  obtain ⟨hr, rfl, _, hc, _, hn, _⟩ := h
  by_cases hl : 100 < l.length
  · exact bounds_long m f c x d a l.length cap w1 hl
  · exact bounds_core m f c x d a l cap w1 hr (by omega) hc hn
end Go.Proofs.Ytgokihclfdkgeaa
