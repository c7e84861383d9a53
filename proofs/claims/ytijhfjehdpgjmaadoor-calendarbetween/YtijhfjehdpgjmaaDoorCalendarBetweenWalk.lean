/- The walk of falseworklaw04.CalendarBetween. -/
import Derived.Test.YtijhfjehdpgjmaaDoorCalAlive
import Derived.Test.YtijhfjehdpgjmaaDoorCalRef
import Derived.Test.YtijhfjehdpgjmaaDoorCalIn
namespace Go.Proofs.YtijhfjehdpgjmaaDoor
open Go.RowKit Go.Sort

theorem law_between_long (a : Option Addr) (len cap : Nat) (f t : Int) (w : World) (hL : Lens w) (h : 100 < len) (h2 : len ≤ 9223372036854775807) :
    Calls Tryd.prog 7 #[.slice a len cap, .int .i64 f, .int .i64 t] w fun e w' => e = .returned (.bool true) ∧ Gr w w' := by
  have A := Lib.hid (alive_any w hL)
  clear hL
  go_enter Tryd.func7, Tryd.ntmps7
  go_wp2_with fail
  refine A.out.mono ?_
  rintro e w1 ⟨rfl, hg1⟩
  have HG1 := Lib.hid hg1
  clear hg1 A
  go_wp2
  go_ret
  exact ⟨rfl, HG1.out⟩

set_option maxHeartbeats 1600000 in
/-- r: what Between answers -/
theorem law_between_core (a : Option Addr) (l : List Int) (cap : Nat) (f t r : Int) (w : World) (hL : Lens w) (hl : l.length ≤ 100) (hr : RowAt w a l) (hI : ∀ n ∈ l, I n) (hf : I f) (ht : I t)
    (B : ∀ b W, Cal W b l → Calls Tryd.prog 25 #[.pointer (some ⟨b, 0, none⟩), .int .i64 f, .int .i64 t] W fun e w' => e = .returned (.int .i64 r) ∧ Gr W w')
    (h0 : t ≤ f → r = 0) (h1 : 0 ≤ r ∧ r ≤ 100000) (h2 : f < t → t - f ≤ 2000 → r = cntF l f (t - f).toNat) :
    Calls Tryd.prog 7 #[.slice a l.length cap, .int .i64 f, .int .i64 t] w fun e w' => e = .returned (.bool true) ∧ Gr w w' := by
  have A := Lib.hid (alive_any w hL)
  have C : ∀ W, RowAt W a l → Hid (Calls Tryd.prog 11 #[.slice a l.length cap] W (NewYes l W)) := fun W h => new_any a l cap W h hI (by omega)
  have HB := Lib.hid B
  have HR := Lib.hid hr
  have H2 := Lib.hid h2
  obtain ⟨f1, f2⟩ := hf
  obtain ⟨t1, t2⟩ := ht
  clear hL B hr hI h2
  go_enter Tryd.func7, Tryd.ntmps7
  go_wp2_with fail
  refine A.out.mono ?_
  rintro e w1 ⟨rfl, hg1⟩
  have HG1 := Lib.hid hg1
  clear hg1 A
  go_wp2_with fail
  refine (C _ (HR.out.gr HG1.out)).out.mono ?_
  rintro e w2 ⟨⟨b, rfl, hc⟩, hg2⟩
  have HC := Lib.hid hc
  have HG2 := Lib.hid (HG1.out.trans hg2)
  clear hc hg2 C HG1
  go_wp2_with fail
  refine (HB.out b _ HC.out).mono ?_
  rintro e w3 ⟨rfl, hg3⟩
  have HG3 := Lib.hid (HG2.out.trans hg3)
  have HR3 := Lib.hid (HR.out.gr HG3.out)
  clear hg3 HB HC HG2 HR
  by_cases c1 : t ≤ f
  · obtain rfl := h0 c1
    go_wp2
    go_ret
    exact ⟨rfl, HG3.out⟩
  by_cases c2 : f < 0 ∧ 9223372036854775807 + f < t
  · obtain ⟨c3, c4⟩ := c2
    go_wp2
    go_ret
    exact ⟨by simp [go_sem], HG3.out⟩
  by_cases c5 : 2000 < t - f
  · have c6 : -9223372036854775808 ≤ t - f ∧ t - f ≤ 9223372036854775807 := by omega
    by_cases c7 : f < 0
    · have c8 : t ≤ 9223372036854775807 + f := by omega
      go_wp2
      go_ret
      exact ⟨by simp [go_sem], HG3.out⟩
    · go_wp2
      go_ret
      exact ⟨by simp [go_sem], HG3.out⟩
  have HE := Lib.hid (H2.out (by omega) (by omega))
  clear H2
  have c6 : 0 < t - f ∧ t - f ≤ 2000 := by omega
  have c9 : f < t := by omega
  clear c5 c1 h0
  by_cases c7 : f < 0
  · have c8 : t ≤ 9223372036854775807 + f := by omega
    have c10 : decide (f < 0) = true := by simpa using c7
    go_wp2_with fail
    go_loopg [10, 11] (t - f).toNat (fun g c10 c11 wr => ∃ k : Nat, c10 = .int .i64 (cntF l f k) ∧ c11 = .int .i64 (f + (k : Int)) ∧ g + k = (t - f).toNat ∧ wr = w3)
    case atStart => exact ⟨0, rfl, by simp, by omega, rfl⟩
    case round =>
      obtain ⟨k, rfl, rfl, hg, rfl⟩ := hrel
      have bd := cnt_bd l f k
      by_cases hk : f + (k : Int) < t
      · by_cases hb : biz l (f + (k : Int))
        · have HN := Lib.hid (cnt_yes hb)
          have D := Lib.hid (by have := rbusiness_any a l cap (f + (k : Int)) wr ⟨by omega, by omega⟩ HR3.out (by omega); rwa [decide_eq_true hb] at this)
          clear hb
          generalize cntF l f k = c at *
          go_wp2_with fail
          refine D.out.mono ?_
          rintro e w4 ⟨rfl, rfl⟩
          go_wp2
          go_roundg (gk - 1)
          case measure => omega
          case rel => exact ⟨k + 1, by rw [HN.out], by go_num, by omega, rfl⟩
        · have HN := Lib.hid (cnt_no hb)
          have D := Lib.hid (by have := rbusiness_any a l cap (f + (k : Int)) wr ⟨by omega, by omega⟩ HR3.out (by omega); rwa [decide_eq_false hb] at this)
          clear hb
          generalize cntF l f k = c at *
          go_wp2_with fail
          refine D.out.mono ?_
          rintro e w4 ⟨rfl, rfl⟩
          go_wp2
          go_roundg (gk - 1)
          case measure => omega
          case rel => exact ⟨k + 1, by rw [HN.out], by go_num, by omega, rfl⟩
      · have HK := Lib.hid (show r = cntF l f k by rw [HE.out, show (t - f).toNat = k by omega])
        go_wp2
        go_ret
        exact ⟨by simp [go_sem, HK.out], HG3.out⟩
  · have c10 : decide (f < 0) = false := by simpa using c7
    go_wp2_with fail
    go_loopg [10, 11] (t - f).toNat (fun g c10 c11 wr => ∃ k : Nat, c10 = .int .i64 (cntF l f k) ∧ c11 = .int .i64 (f + (k : Int)) ∧ g + k = (t - f).toNat ∧ wr = w3)
    case atStart => exact ⟨0, rfl, by simp, by omega, rfl⟩
    case round =>
      obtain ⟨k, rfl, rfl, hg, rfl⟩ := hrel
      have bd := cnt_bd l f k
      by_cases hk : f + (k : Int) < t
      · by_cases hb : biz l (f + (k : Int))
        · have HN := Lib.hid (cnt_yes hb)
          have D := Lib.hid (by have := rbusiness_any a l cap (f + (k : Int)) wr ⟨by omega, by omega⟩ HR3.out (by omega); rwa [decide_eq_true hb] at this)
          clear hb
          generalize cntF l f k = c at *
          go_wp2_with fail
          refine D.out.mono ?_
          rintro e w4 ⟨rfl, rfl⟩
          go_wp2
          go_roundg (gk - 1)
          case measure => omega
          case rel => exact ⟨k + 1, by rw [HN.out], by go_num, by omega, rfl⟩
        · have HN := Lib.hid (cnt_no hb)
          have D := Lib.hid (by have := rbusiness_any a l cap (f + (k : Int)) wr ⟨by omega, by omega⟩ HR3.out (by omega); rwa [decide_eq_false hb] at this)
          clear hb
          generalize cntF l f k = c at *
          go_wp2_with fail
          refine D.out.mono ?_
          rintro e w4 ⟨rfl, rfl⟩
          go_wp2
          go_roundg (gk - 1)
          case measure => omega
          case rel => exact ⟨k + 1, by rw [HN.out], by go_num, by omega, rfl⟩
      · have HK := Lib.hid (show r = cntF l f k by rw [HE.out, show (t - f).toNat = k by omega])
        go_wp2
        go_ret
        exact ⟨by simp [go_sem, HK.out], HG3.out⟩

theorem law_between_any (a : Option Addr) (l : List Int) (cap : Nat) (f t : Int) (w : World) (hL : Lens w) (hl : l.length ≤ 9223372036854775807) (hr : RowAt w a l) (hI : ∀ n ∈ l, I n) (hf : I f) (ht : I t) :
    Calls Tryd.prog 7 #[.slice a l.length cap, .int .i64 f, .int .i64 t] w fun e w' => e = .returned (.bool true) ∧ Gr w w' := by
  by_cases h : 100 < l.length
  · exact law_between_long a l.length cap f t w hL h hl
  · by_cases h1 : t ≤ f
    · exact law_between_core a l cap f t 0 w hL (by omega) hr hI hf ht (fun b W _ => (between_none b f t W h1).mono fun e w' ⟨he, hw⟩ => ⟨he, by subst hw; exact Gr.refl _⟩) (fun _ => rfl) (by omega) (fun h => by omega)
    · by_cases h2 : 100000 < t - f
      · exact law_between_core a l cap f t 0 w hL (by omega) hr hI hf ht (fun b W _ => (between_many b f t W hf ht (by omega) h2).mono fun e w' ⟨he, hw⟩ => ⟨he, by subst hw; exact Gr.refl _⟩) (fun _ => rfl) (by omega) (fun _ h => by omega)
      · have bd := cnt_bd l f (t - f).toNat
        exact law_between_core a l cap f t _ w hL (by omega) hr hI hf ht (fun b W hc => between_any b l f t W hf ht (by omega) (by omega) hc) (fun h => by omega) (by omega) (fun _ _ => rfl)

theorem calendarBetween_walk (a : Option Addr) (len cap : Nat) (zs : List Int) (f t : Int) (w : World) (hr : CameRow w a len cap zs) (hf : I f) (ht : I t) (hL : Lens w) :
    Calls Tryd.prog 7 #[.slice a len cap, .int .i64 f, .int .i64 t] w fun e w' => e = .returned (.bool true) ∧ Below w.heap.size w w' := by
  obtain ⟨h1, h2, h3, h4, _⟩ := row_of hr
  have := law_between_any a (zs.take len) cap f t w hL (by omega) h1 h3 hf ht
  rw [h2] at this
  exact this.mono fun e w' ⟨he, hg⟩ => ⟨he, hg.below⟩
end Go.Proofs.YtijhfjehdpgjmaaDoor
