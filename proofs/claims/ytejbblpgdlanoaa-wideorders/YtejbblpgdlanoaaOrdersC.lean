/- The walk of falseworklaw01.WideOrders: turned at the end of all room. -/
import Derived.Test.YtejbblpgdlanoaaOrdersA
namespace Go.Proofs.Ytejbblpgdlanoaa
open Go.RowKit
attribute [local go_sem ↓] Go.wp_at_zero Go.wp_at_succ

set_option maxHeartbeats 8000000 in
set_option maxRecDepth 100000 in
theorem orders_full (ad : Addr) (l : List Int) (w : World) (hr : RowAt .i64 w (some ad) l) (hI : ∀ n ∈ l, I n) (hlen : l.length ≤ 100) :
    Calls Try.prog 6 #[.slice (some ad) l.length l.length, .int .i64 (l.length : Nat)] w fun e w' => e = .returned (.bool true) ∧ Below w.heap.size w w' := by
  have HR := Lib.hid hr
  have HI := Lib.hid hI
  clear hr hI
  have d1 : decide ((100 : Int) < (l.length : Int)) = false := by simp only [decide_eq_false_iff_not]; omega
  have d2 : decide ((l.length : Int) < 0) = false := by simp only [decide_eq_false_iff_not]; omega
  have HD : ∀ W, Below w.heap.size w W → Hid (RowAt .i64 W (some ad) (l.drop l.length)) := fun W h => Or.inl (by simp)
  have S4 := fun a c W h => Lib.hid (sum_turned (t := l.length) HI.out hlen a c W h)
  have S5 := fun a c W h => Lib.hid (sum_head (t := l.length) HI.out hlen (by omega) a c W h)
  have S6 := fun a c W h => Lib.hid (sum_tail0 HI.out hlen a c W h)
  have S0 := fun a c W h => Lib.hid (sum_any a l c W h HI.out (by omega))
  have EA := Lib.hid (sum_two l l.length)
  have IX := Lib.hid (cutV_I (l.take l.length).sum)
  have IY := Lib.hid (cutV_I (l.drop l.length).sum)
  have cx := @cutE_zero (l.take l.length).sum
  have cy := @cutE_zero (l.drop l.length).sum
  generalize hp : (l.take l.length).sum = p at *
  generalize hq : (l.drop l.length).sum = q at *
  generalize hs : l.sum = s at *
  clear hp hq hs
  have CX := Lib.hid cx
  have CY := Lib.hid cy
  clear cx cy
  go_enter Try.func6, Try.ntmps6
  go_wp2_with fail
  refine (alive_any _).mono ?_
  rintro e w1 ⟨rfl, hw1⟩
  go_wp2_with fail
  refine (S0 (some ad) l.length _ (HR.out.below hw1)).out.mono ?_
  rintro e w2 ⟨rfl, hw2⟩
  have hB := bl_trans hw1 hw2
  have hz := hB.size
  have HB := Lib.hid hB
  clear hw1 hw2 hB
  go_upto_region 6 with (fail)
  go_region_law (first
    | (refine step_app (by rfl) _ _ (by rfl) w w.heap.size _ [] (l.drop l.length) ad 0 0 (by rfl) (by rfl) (by simp) (OW.litd (by omega)) (HD _ (by repeat' (first | (with_reducible exact HB.out) | (with_reducible refine below_drewN ?_ _) | (with_reducible refine Below.drew ?_) | (with_reducible refine Below.alloc ?_ ?_ _) | (simp; done) | (simp; omega) | omega))).out.cells (by first | (simp; done) | (simp; omega)) (by repeat' (first | (with_reducible exact HB.out) | (with_reducible refine below_drewN ?_ _) | (with_reducible refine Below.drew ?_) | (with_reducible refine Below.alloc ?_ ?_ _) | (simp; done) | (simp; omega) | omega)) (by first | (simp; done) | (simp; omega)) ?_; intro v3 w3 ho3 hb3 hz3)
    | (refine step_app (by rfl) _ _ (by rfl) w w.heap.size _ ([] ++ l.drop l.length) (l.take l.length) ad l.length l.length (by rfl) (by rfl) (by simp) (by assumption) ((HR.out.below (by assumption)).take l.length).cells (by first | (simp; done) | (simp; omega)) (by assumption) (by assumption) ?_; intro v4 w4 ho4 hb4 hz4)
    | (obtain ⟨a4, c4, rfl, hr4⟩ := OW.row ‹OW _ _ _ ([] ++ l.drop l.length ++ l.take l.length)›; go_simp; refine (S4 a4 c4 _ hr4).out.mono ?_; rintro e w5 ⟨rfl, hw5⟩; go_simp))
  have hB := bl_over ‹Below w.heap.size w w4› ‹w.heap.size ≤ w4.heap.size› hw5
  have hz5 := hB.size
  have HB5 := Lib.hid hB
  clear hB
  go_wp2_with fail
  refine (S5 (some ad) l.length _ (HR.out.below HB5.out)).out.mono ?_
  rintro e w6 ⟨rfl, hw6⟩
  have hB6 := Lib.hid (bl_trans HB5.out hw6)
  go_wp2_with fail
  refine (S6 (some ad) _ _ (HD _ hB6.out).out).out.mono ?_
  rintro e w7 ⟨rfl, hw7⟩
  have hB7 := Lib.hid (bl_trans hB6.out hw7)
  clear HB HB5 hB6 hw5 hw6 hw7
  by_cases hp : I p
  case neg =>
    have e1 := cutE_out hp
    rw [e1]
    have hne : (11 : Int) ≠ 0 := by omega
    go_wp2
    go_ret
    exact ⟨rfl, hB7.out⟩
  by_cases hq : I q
  case neg =>
    have e1 := cutE_in hp
    have e2 := cutE_out hq
    rw [e1, e2]
    clear e1 e2
    go_wp2
    go_ret
    exact ⟨rfl, hB7.out⟩
  have A1 := fun w => Lib.hid (add_any p q w hp hq)
  rw [EA.out] at A1
  rw [cutE_in hp, cutE_in hq, cutV_in hp, cutV_in hq]
  have A2 := fun w => Lib.hid (sub_any (cutV s) q w (cutV_I s) hq)
  by_cases hs : I s
  · have e3 : cutV s - q = p := by rw [cutV_in hs]; have := EA.out; omega
    rw [e3, cutV_in hs, cutE_in hp, cutV_in hp] at A2
    rw [cutV_in hs, cutE_in hs] at A1 ⊢
    clear e3 EA IX IY CX CY
    go_wp2_with fail
    refine (A1 _).out.mono ?_
    rintro e w8 ⟨rfl, rfl⟩
    go_wp2_with fail
    refine (A2 _).out.mono ?_
    rintro e w9 ⟨rfl, rfl⟩
    go_wp2
    go_ret
    exact ⟨by simp, hB7.out⟩
  · rw [cutV_out hs] at A2
    rw [cutV_out hs, cutE_out hs] at A1 ⊢
    clear EA IX IY CX CY
    go_wp2_with fail
    refine (A1 _).out.mono ?_
    rintro e w8 ⟨rfl, rfl⟩
    go_wp2_with fail
    refine (A2 _).out.mono ?_
    rintro e w9 ⟨rfl, rfl⟩
    go_wp2
    go_ret
    exact ⟨by simp, hB7.out⟩

end Go.Proofs.Ytejbblpgdlanoaa
