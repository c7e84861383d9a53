/- The contracts of falseworkref01, eleventh part: round (F0). The contracts of falseworkref01, eleventh part: round (F1). The contracts of falseworkref01, eleventh part: round (F2). -/
import Derived.Test.YtaebbfaheaghfaaRefH
import Derived.Test.YtaebbfaheaghfaaRefJ
import Derived.Test.YtaebbfaheaghfaaFieldRun

namespace Go.Proofs.Ytaebbfaheaghfaa
open Go.RowKit

set_option maxHeartbeats 80000000 in
set_option maxRecDepth 100000 in
theorem round_F0 (a b c x Q R n : Int) (w : World) (ha : I a) (hb : I b) (hc : I c) (c0 : 0 < c) (EP : Hid (V (a * b) = Nm false x)) (EC : Hid (V c = Nm false c)) (hx : 0 ≤ x ∧ x ≤ 85070591730234615865843651857942052864) (eq : Hid (Q = x / c)) (er : Hid (R = x % c))
    (Q0 : 0 ≤ Q ∧ Q ≤ 85070591730234615865843651857942052864) (EN : Hid (V n = Nm (false && !(Q == 0)) Q)) (hn : Far n) :
    Calls Try.prog 39 #[.int .i64 a, .int .i64 b, .int .i64 c, .int .i64 0] w fun e w' => e = .returned (.tuple #[.int .i64 (cutV n), .int .i64 (cutE n)]) ∧ Below w.heap.size w w' := by
  have hT := fun w => times_any a b w ha hb
  rw [EP.out] at hT
  have HT := fun w => Lib.hid (hT w)
  have hO := fun w => of_any c w hc
  rw [EC.out] at hO
  have HO := fun w => Lib.hid (hO w)
  have hD := fun w => divide_any x c w hx.1 (by omega) c0 (by unfold I at hc; omega)
  rw [← eq.out, ← er.out] at hD
  have HD := fun w => Lib.hid (hD w)
  have hcd : decide (c ≤ 0) = false := by simp only [decide_eq_false_iff_not]; omega
  have hCut := fun w => cut_any n w hn
  rw [EN.out] at hCut
  have HC := fun w => Lib.hid (hCut w)
  have HZQ := fun w => Lib.hid (eq_D Q Q0.1 (by omega) w)
  clear hT hO hD hCut
  have hF := field_run false c
  go_enter Try.func39, Try.ntmps39
  go_wp2_with fail
  refine (HT _).out.mono ?_
  rintro e w1 ⟨rfl, hb1⟩
  go_wp2_with fail
  refine (HO _).out.mono ?_
  rintro e w2 ⟨rfl, X1, Y1, rfl⟩
  go_wp2_with fail
  refine (HD _).out.mono ?_
  rintro e w3 ⟨rfl, hb3⟩
  have hz3 : w1.heap.size + 1 + 1 + 1 < w3.heap.size := by have := hb3.size; simp at this; omega
  have n10 : NumAt w3 (w1.heap.size) false x := by
    refine NumAt.below ?_ hb3
    refine ⟨?_, ?_, ?_⟩
    all_goals first | (intro i; simp [go_sem]; done) | (constructor <;> simp [go_sem]; done) | (simp [go_sem]; done) | (simp; done) | (simp; omega)
  have n11 : DigAt w3 (w1.heap.size + 1 + 1 + 1) c := by
    refine DigAt.below ?_ hb3
    refine ⟨?_, ?_, ?_, ?_, ?_, ?_, ?_, ?_, ?_, ?_, ?_, ?_⟩
    all_goals first | (intro i; simp [go_sem]; done) | (constructor <;> simp [go_sem]; done) | (simp [go_sem]; done) | (simp; done) | (simp; omega)
  have hb : Below w.heap.size w w3 := by
    refine bl_trans hb1 (Below.trans ?_ (hb3.mono ?_))
    · have hb := Below.refl w1.heap.size w1
      repeat' (first | (with_reducible exact hb) | (with_reducible exact Below.refl _ _) | (with_reducible refine below_drewN ?_ _) | (with_reducible refine Below.drew ?_) | (with_reducible refine Below.alloc ?_ ?_ _) | (with_reducible refine Below.setCell ?_ ?_ _) | (simp; done) | (simp; omega) | omega)
    · simp; omega
  have HB := Lib.hid hb
  have N10 := Lib.hid n10
  have N11 := Lib.hid n11
  clear hb1 hb3 hb n10 n11
  go_upto_region 6 with (fail)
  refine wp_gen (fun wx => Below w.heap.size w wx ∧ NumAt wx (w1.heap.size) false x ∧ DigAt wx (w1.heap.size + 1 + 1 + 1) c ∧ DigAt wx (w3.heap.size) Q ∧ DigAt wx (w3.heap.size + 1) R) ?_ ?_
  · have hb := HB.out
    have hbs := hb.size
    refine ⟨?_, ?_, ?_, ?_, ?_⟩
    · repeat' (first | (with_reducible exact hb) | (with_reducible exact Below.refl _ _) | (with_reducible refine below_drewN ?_ _) | (with_reducible refine Below.drew ?_) | (with_reducible refine Below.alloc ?_ ?_ _) | (with_reducible refine Below.setCell ?_ ?_ _) | (simp; done) | (simp; omega) | omega)
    · repeat' (with_reducible first | exact N10.out | refine NumAt.drewN ?_ _ | refine NumAt.drew ?_ | refine NumAt.alloc ?_ _ | refine NumAt.other ?_ _ (by omega))
    · repeat' (with_reducible first | exact N11.out | refine DigAt.drewN ?_ _ | refine DigAt.drew ?_ | refine DigAt.alloc ?_ _ | refine DigAt.other ?_ _ (by omega))
    · refine ⟨?_, ?_, ?_, ?_, ?_, ?_, ?_, ?_, ?_, ?_, ?_, ?_⟩
      all_goals first | (intro i; simp [go_sem]; done) | (constructor <;> simp [go_sem]; done) | (simp [go_sem]; done) | (simp; done) | (simp; omega)
    · refine ⟨?_, ?_, ?_, ?_, ?_, ?_, ?_, ?_, ?_, ?_, ?_, ?_⟩
      all_goals first | (intro i; simp [go_sem]; done) | (constructor <;> simp [go_sem]; done) | (simp [go_sem]; done) | (simp; done) | (simp; omega)
  rintro wx ⟨hb, n10, n11, n12, n13⟩
  clear HB N10 N11 hF
  have HB := Lib.hid hb
  have N10 := Lib.hid n10
  have l10 := n10.lt
  have N11 := Lib.hid n11
  have l11 := n11.lt
  have N12 := Lib.hid n12
  have l12 := n12.lt
  have N13 := Lib.hid n13
  have l13 := n13.lt
  clear hb n10 n11 n12 n13
  go_cut [14] (fun p wy => p = .pointer (some ⟨wx.heap.size, 0, none⟩) ∧ Below w.heap.size w wy ∧ NumAt wy (w1.heap.size) false x ∧ DigAt wy (w1.heap.size + 1 + 1 + 1) c ∧ DigAt wy (w3.heap.size) Q ∧ DigAt wy (w3.heap.size + 1) R ∧ NumAt wy (wx.heap.size) (false && !(Q == 0)) Q)
  case first =>
    have x0 := N10.out.c.c0
    have q0 := N12.out.c0
    have q1 := N12.out.c1
    have q2 := N12.out.c2
    have q3 := N12.out.c3
    have q4 := N12.out.c4
    have q5 := N12.out.c5
    have q6 := N12.out.c6
    have q7 := N12.out.c7
    have q8 := N12.out.c8
    have q9 := N12.out.c9
    have hz := fun w => (HZQ w).out
    have hb := HB.out
    have hbs := hb.size
    (first | go_region | fail)
    all_goals
      go_wp2_with fail
      go_meet
      refine ⟨rfl, ?_, ?_, ?_, ?_, ?_, ?_⟩
      · repeat' (first | (with_reducible exact hb) | (with_reducible exact Below.refl _ _) | (with_reducible refine below_drewN ?_ _) | (with_reducible refine Below.drew ?_) | (with_reducible refine Below.alloc ?_ ?_ _) | (with_reducible refine Below.setCell ?_ ?_ _) | (simp; done) | (simp; omega) | omega)
      · repeat' (with_reducible first | exact N10.out | refine NumAt.drewN ?_ _ | refine NumAt.drew ?_ | refine NumAt.alloc ?_ _ | refine NumAt.other ?_ _ (by omega))
      · repeat' (with_reducible first | exact N11.out | refine DigAt.drewN ?_ _ | refine DigAt.drew ?_ | refine DigAt.alloc ?_ _ | refine DigAt.other ?_ _ (by omega))
      · repeat' (with_reducible first | exact N12.out | refine DigAt.drewN ?_ _ | refine DigAt.drew ?_ | refine DigAt.alloc ?_ _ | refine DigAt.other ?_ _ (by omega))
      · repeat' (with_reducible first | exact N13.out | refine DigAt.drewN ?_ _ | refine DigAt.drew ?_ | refine DigAt.alloc ?_ _ | refine DigAt.other ?_ _ (by omega))
      · refine ⟨?_, ?_, ?_⟩
        all_goals first | (intro i; simp [go_sem]; done) | (constructor <;> simp [go_sem]; done) | (simp [go_sem]; done) | (simp; done) | (simp; omega)
  case rest =>
  obtain ⟨rfl, hb, n10, n11, n12, n13, n14⟩ := hcut
  have hlx : w3.heap.size + 1 < wx.heap.size := by omega
  clear HB N10 N11 N12 N13 l10 l11 l12 l13 HZQ
  have HB := Lib.hid hb
  have N10 := Lib.hid n10
  have l10 := n10.lt
  have N11 := Lib.hid n11
  have l11 := n11.lt
  have N12 := Lib.hid n12
  have l12 := n12.lt
  have N13 := Lib.hid n13
  have l13 := n13.lt
  have N14 := Lib.hid n14
  have l14 := n14.lt
  clear hb n10 n11 n12 n13 n14
  have x0 := N10.out.c.c0
  have s0 := N14.out.c.c0
  have s1 := N14.out.c.c1
  have s2 := N14.out.c.c2
  have s3 := N14.out.c.c3
  have s4 := N14.out.c.c4
  have s5 := N14.out.c.c5
  have s6 := N14.out.c.c6
  have s7 := N14.out.c.c7
  have s8 := N14.out.c.c8
  have s9 := N14.out.c.c9
  have s10 := N14.out.c.c10
  have hb := HB.out
  go_wp2_with fail
  refine (HC _).out.mono ?_
  rintro e w9 ⟨rfl, hb9⟩
  go_wp2
  go_ret2
  exact ⟨rfl, bl_trans hb hb9.below⟩
end Go.Proofs.Ytaebbfaheaghfaa

namespace Go.Proofs.Ytaebbfaheaghfaa
open Go.RowKit

set_option maxHeartbeats 80000000 in
set_option maxRecDepth 100000 in
theorem round_F1 (a b c x Q R n : Int) (w : World) (ha : I a) (hb : I b) (hc : I c) (c0 : 0 < c) (EP : Hid (V (a * b) = Nm true x)) (EC : Hid (V c = Nm false c)) (hx : 0 ≤ x ∧ x ≤ 85070591730234615865843651857942052864) (eq : Hid (Q = x / c)) (er : Hid (R = x % c))
    (Q0 : 0 ≤ Q ∧ Q ≤ 85070591730234615865843651857942052864) (R0 : 0 ≤ R ∧ R ≤ 85070591730234615865843651857942052864) (EN : Hid (V n = Nm (true && !(Q == 0)) Q)) (hn : Far n) (hr : (R == 0) = true) :
    Calls Try.prog 39 #[.int .i64 a, .int .i64 b, .int .i64 c, .int .i64 0] w fun e w' => e = .returned (.tuple #[.int .i64 (cutV n), .int .i64 (cutE n)]) ∧ Below w.heap.size w w' := by
  have hT := fun w => times_any a b w ha hb
  rw [EP.out] at hT
  have HT := fun w => Lib.hid (hT w)
  have hO := fun w => of_any c w hc
  rw [EC.out] at hO
  have HO := fun w => Lib.hid (hO w)
  have hD := fun w => divide_any x c w hx.1 (by omega) c0 (by unfold I at hc; omega)
  rw [← eq.out, ← er.out] at hD
  have HD := fun w => Lib.hid (hD w)
  have hcd : decide (c ≤ 0) = false := by simp only [decide_eq_false_iff_not]; omega
  have hCut := fun w => cut_any n w hn
  rw [EN.out] at hCut
  have HC := fun w => Lib.hid (hCut w)
  have HZQ := fun w => Lib.hid (eq_D Q Q0.1 (by omega) w)
  have HZR := fun w => Lib.hid (eq_D R R0.1 (by omega) w)
  clear hT hO hD hCut
  have hF := field_run false c
  go_enter Try.func39, Try.ntmps39
  go_wp2_with fail
  refine (HT _).out.mono ?_
  rintro e w1 ⟨rfl, hb1⟩
  go_wp2_with fail
  refine (HO _).out.mono ?_
  rintro e w2 ⟨rfl, X1, Y1, rfl⟩
  go_wp2_with fail
  refine (HD _).out.mono ?_
  rintro e w3 ⟨rfl, hb3⟩
  have hz3 : w1.heap.size + 1 + 1 + 1 < w3.heap.size := by have := hb3.size; simp at this; omega
  have n10 : NumAt w3 (w1.heap.size) true x := by
    refine NumAt.below ?_ hb3
    refine ⟨?_, ?_, ?_⟩
    all_goals first | (intro i; simp [go_sem]; done) | (constructor <;> simp [go_sem]; done) | (simp [go_sem]; done) | (simp; done) | (simp; omega)
  have n11 : DigAt w3 (w1.heap.size + 1 + 1 + 1) c := by
    refine DigAt.below ?_ hb3
    refine ⟨?_, ?_, ?_, ?_, ?_, ?_, ?_, ?_, ?_, ?_, ?_, ?_⟩
    all_goals first | (intro i; simp [go_sem]; done) | (constructor <;> simp [go_sem]; done) | (simp [go_sem]; done) | (simp; done) | (simp; omega)
  have hb : Below w.heap.size w w3 := by
    refine bl_trans hb1 (Below.trans ?_ (hb3.mono ?_))
    · have hb := Below.refl w1.heap.size w1
      repeat' (first | (with_reducible exact hb) | (with_reducible exact Below.refl _ _) | (with_reducible refine below_drewN ?_ _) | (with_reducible refine Below.drew ?_) | (with_reducible refine Below.alloc ?_ ?_ _) | (with_reducible refine Below.setCell ?_ ?_ _) | (simp; done) | (simp; omega) | omega)
    · simp; omega
  have HB := Lib.hid hb
  have N10 := Lib.hid n10
  have N11 := Lib.hid n11
  clear hb1 hb3 hb n10 n11
  go_upto_region 6 with (fail)
  refine wp_gen (fun wx => Below w.heap.size w wx ∧ NumAt wx (w1.heap.size) true x ∧ DigAt wx (w1.heap.size + 1 + 1 + 1) c ∧ DigAt wx (w3.heap.size) Q ∧ DigAt wx (w3.heap.size + 1) R) ?_ ?_
  · have hb := HB.out
    have hbs := hb.size
    refine ⟨?_, ?_, ?_, ?_, ?_⟩
    · repeat' (first | (with_reducible exact hb) | (with_reducible exact Below.refl _ _) | (with_reducible refine below_drewN ?_ _) | (with_reducible refine Below.drew ?_) | (with_reducible refine Below.alloc ?_ ?_ _) | (with_reducible refine Below.setCell ?_ ?_ _) | (simp; done) | (simp; omega) | omega)
    · repeat' (with_reducible first | exact N10.out | refine NumAt.drewN ?_ _ | refine NumAt.drew ?_ | refine NumAt.alloc ?_ _ | refine NumAt.other ?_ _ (by omega))
    · repeat' (with_reducible first | exact N11.out | refine DigAt.drewN ?_ _ | refine DigAt.drew ?_ | refine DigAt.alloc ?_ _ | refine DigAt.other ?_ _ (by omega))
    · refine ⟨?_, ?_, ?_, ?_, ?_, ?_, ?_, ?_, ?_, ?_, ?_, ?_⟩
      all_goals first | (intro i; simp [go_sem]; done) | (constructor <;> simp [go_sem]; done) | (simp [go_sem]; done) | (simp; done) | (simp; omega)
    · refine ⟨?_, ?_, ?_, ?_, ?_, ?_, ?_, ?_, ?_, ?_, ?_, ?_⟩
      all_goals first | (intro i; simp [go_sem]; done) | (constructor <;> simp [go_sem]; done) | (simp [go_sem]; done) | (simp; done) | (simp; omega)
  rintro wx ⟨hb, n10, n11, n12, n13⟩
  clear HB N10 N11 hF
  have HB := Lib.hid hb
  have N10 := Lib.hid n10
  have l10 := n10.lt
  have N11 := Lib.hid n11
  have l11 := n11.lt
  have N12 := Lib.hid n12
  have l12 := n12.lt
  have N13 := Lib.hid n13
  have l13 := n13.lt
  clear hb n10 n11 n12 n13
  go_cut [14] (fun p wy => p = .pointer (some ⟨wx.heap.size, 0, none⟩) ∧ Below w.heap.size w wy ∧ NumAt wy (w1.heap.size) true x ∧ DigAt wy (w1.heap.size + 1 + 1 + 1) c ∧ DigAt wy (w3.heap.size) Q ∧ DigAt wy (w3.heap.size + 1) R ∧ NumAt wy (wx.heap.size) (true && !(Q == 0)) Q)
  case first =>
    have x0 := N10.out.c.c0
    have q0 := N12.out.c0
    have q1 := N12.out.c1
    have q2 := N12.out.c2
    have q3 := N12.out.c3
    have q4 := N12.out.c4
    have q5 := N12.out.c5
    have q6 := N12.out.c6
    have q7 := N12.out.c7
    have q8 := N12.out.c8
    have q9 := N12.out.c9
    have hz := fun w => (HZQ w).out
    have hb := HB.out
    have hbs := hb.size
    (first | go_region | fail)
    all_goals
      go_wp2_with fail
      go_meet
      refine ⟨rfl, ?_, ?_, ?_, ?_, ?_, ?_⟩
      · repeat' (first | (with_reducible exact hb) | (with_reducible exact Below.refl _ _) | (with_reducible refine below_drewN ?_ _) | (with_reducible refine Below.drew ?_) | (with_reducible refine Below.alloc ?_ ?_ _) | (with_reducible refine Below.setCell ?_ ?_ _) | (simp; done) | (simp; omega) | omega)
      · repeat' (with_reducible first | exact N10.out | refine NumAt.drewN ?_ _ | refine NumAt.drew ?_ | refine NumAt.alloc ?_ _ | refine NumAt.other ?_ _ (by omega))
      · repeat' (with_reducible first | exact N11.out | refine DigAt.drewN ?_ _ | refine DigAt.drew ?_ | refine DigAt.alloc ?_ _ | refine DigAt.other ?_ _ (by omega))
      · repeat' (with_reducible first | exact N12.out | refine DigAt.drewN ?_ _ | refine DigAt.drew ?_ | refine DigAt.alloc ?_ _ | refine DigAt.other ?_ _ (by omega))
      · repeat' (with_reducible first | exact N13.out | refine DigAt.drewN ?_ _ | refine DigAt.drew ?_ | refine DigAt.alloc ?_ _ | refine DigAt.other ?_ _ (by omega))
      · refine ⟨?_, ?_, ?_⟩
        all_goals first | (intro i; simp [go_sem]; done) | (constructor <;> simp [go_sem]; done) | (simp [go_sem]; done) | (simp; done) | (simp; omega)
  case rest =>
  obtain ⟨rfl, hb, n10, n11, n12, n13, n14⟩ := hcut
  have hlx : w3.heap.size + 1 < wx.heap.size := by omega
  clear HB N10 N11 N12 N13 l10 l11 l12 l13 HZQ
  have HB := Lib.hid hb
  have N10 := Lib.hid n10
  have l10 := n10.lt
  have N11 := Lib.hid n11
  have l11 := n11.lt
  have N12 := Lib.hid n12
  have l12 := n12.lt
  have N13 := Lib.hid n13
  have l13 := n13.lt
  have N14 := Lib.hid n14
  have l14 := n14.lt
  clear hb n10 n11 n12 n13 n14
  have x0 := N10.out.c.c0
  have r0 := N13.out.c0
  have r1 := N13.out.c1
  have r2 := N13.out.c2
  have r3 := N13.out.c3
  have r4 := N13.out.c4
  have r5 := N13.out.c5
  have r6 := N13.out.c6
  have r7 := N13.out.c7
  have r8 := N13.out.c8
  have r9 := N13.out.c9
  have hz := fun w => (HZR w).out
  have s0 := N14.out.c.c0
  have s1 := N14.out.c.c1
  have s2 := N14.out.c.c2
  have s3 := N14.out.c.c3
  have s4 := N14.out.c.c4
  have s5 := N14.out.c.c5
  have s6 := N14.out.c.c6
  have s7 := N14.out.c.c7
  have s8 := N14.out.c.c8
  have s9 := N14.out.c.c9
  have s10 := N14.out.c.c10
  have hb := HB.out
  go_wp2_with fail
  refine (HC _).out.mono ?_
  rintro e w9 ⟨rfl, hb9⟩
  go_wp2
  go_ret2
  exact ⟨rfl, bl_trans hb hb9.below⟩
end Go.Proofs.Ytaebbfaheaghfaa

namespace Go.Proofs.Ytaebbfaheaghfaa
open Go.RowKit

set_option maxHeartbeats 80000000 in
set_option maxRecDepth 100000 in
theorem round_F2 (a b c x Q R n : Int) (w : World) (ha : I a) (hb : I b) (hc : I c) (c0 : 0 < c) (EP : Hid (V (a * b) = Nm true x)) (EC : Hid (V c = Nm false c)) (E1 : Hid (V 1 = Nm false 1)) (hx : 0 ≤ x ∧ x ≤ 85070591730234615865843651857942052864) (eq : Hid (Q = x / c)) (er : Hid (R = x % c))
    (Q0 : 0 ≤ Q ∧ Q ≤ 85070591730234615865843651857942052864) (R0 : 0 ≤ R ∧ R ≤ 85070591730234615865843651857942052864) (EN : Hid (V n = Nm true (Q + 1))) (hn : Far n) (hr : (R == 0) = false) :
    Calls Try.prog 39 #[.int .i64 a, .int .i64 b, .int .i64 c, .int .i64 0] w fun e w' => e = .returned (.tuple #[.int .i64 (cutV n), .int .i64 (cutE n)]) ∧ Below w.heap.size w w' := by
  have hT := fun w => times_any a b w ha hb
  rw [EP.out] at hT
  have HT := fun w => Lib.hid (hT w)
  have hO := fun w => of_any c w hc
  rw [EC.out] at hO
  have HO := fun w => Lib.hid (hO w)
  have hD := fun w => divide_any x c w hx.1 (by omega) c0 (by unfold I at hc; omega)
  rw [← eq.out, ← er.out] at hD
  have HD := fun w => Lib.hid (hD w)
  have hcd : decide (c ≤ 0) = false := by simp only [decide_eq_false_iff_not]; omega
  have hCut := fun w => cut_any n w hn
  rw [EN.out] at hCut
  have HC := fun w => Lib.hid (hCut w)
  have HZQ := fun w => Lib.hid (eq_D Q Q0.1 (by omega) w)
  have HZR := fun w => Lib.hid (eq_D R R0.1 (by omega) w)
  have ho1 := fun w => of_any 1 w (by decide)
  rw [E1.out] at ho1
  have HO1 := fun w => Lib.hid (ho1 w)
  have HP := fun w => Lib.hid (plus_same true Q 1 w Q0.1 (by omega) (by omega))
  clear hT hO hD hCut ho1
  have hF := field_run false c
  go_enter Try.func39, Try.ntmps39
  go_wp2_with fail
  refine (HT _).out.mono ?_
  rintro e w1 ⟨rfl, hb1⟩
  go_wp2_with fail
  refine (HO _).out.mono ?_
  rintro e w2 ⟨rfl, X1, Y1, rfl⟩
  go_wp2_with fail
  refine (HD _).out.mono ?_
  rintro e w3 ⟨rfl, hb3⟩
  have hz3 : w1.heap.size + 1 + 1 + 1 < w3.heap.size := by have := hb3.size; simp at this; omega
  have n10 : NumAt w3 (w1.heap.size) true x := by
    refine NumAt.below ?_ hb3
    refine ⟨?_, ?_, ?_⟩
    all_goals first | (intro i; simp [go_sem]; done) | (constructor <;> simp [go_sem]; done) | (simp [go_sem]; done) | (simp; done) | (simp; omega)
  have n11 : DigAt w3 (w1.heap.size + 1 + 1 + 1) c := by
    refine DigAt.below ?_ hb3
    refine ⟨?_, ?_, ?_, ?_, ?_, ?_, ?_, ?_, ?_, ?_, ?_, ?_⟩
    all_goals first | (intro i; simp [go_sem]; done) | (constructor <;> simp [go_sem]; done) | (simp [go_sem]; done) | (simp; done) | (simp; omega)
  have hb : Below w.heap.size w w3 := by
    refine bl_trans hb1 (Below.trans ?_ (hb3.mono ?_))
    · have hb := Below.refl w1.heap.size w1
      repeat' (first | (with_reducible exact hb) | (with_reducible exact Below.refl _ _) | (with_reducible refine below_drewN ?_ _) | (with_reducible refine Below.drew ?_) | (with_reducible refine Below.alloc ?_ ?_ _) | (with_reducible refine Below.setCell ?_ ?_ _) | (simp; done) | (simp; omega) | omega)
    · simp; omega
  have HB := Lib.hid hb
  have N10 := Lib.hid n10
  have N11 := Lib.hid n11
  clear hb1 hb3 hb n10 n11
  go_upto_region 6 with (fail)
  refine wp_gen (fun wx => Below w.heap.size w wx ∧ NumAt wx (w1.heap.size) true x ∧ DigAt wx (w1.heap.size + 1 + 1 + 1) c ∧ DigAt wx (w3.heap.size) Q ∧ DigAt wx (w3.heap.size + 1) R) ?_ ?_
  · have hb := HB.out
    have hbs := hb.size
    refine ⟨?_, ?_, ?_, ?_, ?_⟩
    · repeat' (first | (with_reducible exact hb) | (with_reducible exact Below.refl _ _) | (with_reducible refine below_drewN ?_ _) | (with_reducible refine Below.drew ?_) | (with_reducible refine Below.alloc ?_ ?_ _) | (with_reducible refine Below.setCell ?_ ?_ _) | (simp; done) | (simp; omega) | omega)
    · repeat' (with_reducible first | exact N10.out | refine NumAt.drewN ?_ _ | refine NumAt.drew ?_ | refine NumAt.alloc ?_ _ | refine NumAt.other ?_ _ (by omega))
    · repeat' (with_reducible first | exact N11.out | refine DigAt.drewN ?_ _ | refine DigAt.drew ?_ | refine DigAt.alloc ?_ _ | refine DigAt.other ?_ _ (by omega))
    · refine ⟨?_, ?_, ?_, ?_, ?_, ?_, ?_, ?_, ?_, ?_, ?_, ?_⟩
      all_goals first | (intro i; simp [go_sem]; done) | (constructor <;> simp [go_sem]; done) | (simp [go_sem]; done) | (simp; done) | (simp; omega)
    · refine ⟨?_, ?_, ?_, ?_, ?_, ?_, ?_, ?_, ?_, ?_, ?_, ?_⟩
      all_goals first | (intro i; simp [go_sem]; done) | (constructor <;> simp [go_sem]; done) | (simp [go_sem]; done) | (simp; done) | (simp; omega)
  rintro wx ⟨hb, n10, n11, n12, n13⟩
  clear HB N10 N11 hF
  have HB := Lib.hid hb
  have N10 := Lib.hid n10
  have l10 := n10.lt
  have N11 := Lib.hid n11
  have l11 := n11.lt
  have N12 := Lib.hid n12
  have l12 := n12.lt
  have N13 := Lib.hid n13
  have l13 := n13.lt
  clear hb n10 n11 n12 n13
  go_cut [14] (fun p wy => p = .pointer (some ⟨wx.heap.size, 0, none⟩) ∧ Below w.heap.size w wy ∧ NumAt wy (w1.heap.size) true x ∧ DigAt wy (w1.heap.size + 1 + 1 + 1) c ∧ DigAt wy (w3.heap.size) Q ∧ DigAt wy (w3.heap.size + 1) R ∧ NumAt wy (wx.heap.size) (true && !(Q == 0)) Q)
  case first =>
    have x0 := N10.out.c.c0
    have q0 := N12.out.c0
    have q1 := N12.out.c1
    have q2 := N12.out.c2
    have q3 := N12.out.c3
    have q4 := N12.out.c4
    have q5 := N12.out.c5
    have q6 := N12.out.c6
    have q7 := N12.out.c7
    have q8 := N12.out.c8
    have q9 := N12.out.c9
    have hz := fun w => (HZQ w).out
    have hb := HB.out
    have hbs := hb.size
    (first | go_region | fail)
    all_goals
      go_wp2_with fail
      go_meet
      refine ⟨rfl, ?_, ?_, ?_, ?_, ?_, ?_⟩
      · repeat' (first | (with_reducible exact hb) | (with_reducible exact Below.refl _ _) | (with_reducible refine below_drewN ?_ _) | (with_reducible refine Below.drew ?_) | (with_reducible refine Below.alloc ?_ ?_ _) | (with_reducible refine Below.setCell ?_ ?_ _) | (simp; done) | (simp; omega) | omega)
      · repeat' (with_reducible first | exact N10.out | refine NumAt.drewN ?_ _ | refine NumAt.drew ?_ | refine NumAt.alloc ?_ _ | refine NumAt.other ?_ _ (by omega))
      · repeat' (with_reducible first | exact N11.out | refine DigAt.drewN ?_ _ | refine DigAt.drew ?_ | refine DigAt.alloc ?_ _ | refine DigAt.other ?_ _ (by omega))
      · repeat' (with_reducible first | exact N12.out | refine DigAt.drewN ?_ _ | refine DigAt.drew ?_ | refine DigAt.alloc ?_ _ | refine DigAt.other ?_ _ (by omega))
      · repeat' (with_reducible first | exact N13.out | refine DigAt.drewN ?_ _ | refine DigAt.drew ?_ | refine DigAt.alloc ?_ _ | refine DigAt.other ?_ _ (by omega))
      · refine ⟨?_, ?_, ?_⟩
        all_goals first | (intro i; simp [go_sem]; done) | (constructor <;> simp [go_sem]; done) | (simp [go_sem]; done) | (simp; done) | (simp; omega)
  case rest =>
  obtain ⟨rfl, hb, n10, n11, n12, n13, n14⟩ := hcut
  have hwx := HB.out.size
  have hlx : w3.heap.size + 1 < wx.heap.size := by omega
  clear HB N10 N11 N12 N13 l10 l11 l12 l13 HZQ
  have HB := Lib.hid hb
  have N10 := Lib.hid n10
  have l10 := n10.lt
  have N11 := Lib.hid n11
  have l11 := n11.lt
  have N12 := Lib.hid n12
  have l12 := n12.lt
  have N13 := Lib.hid n13
  have l13 := n13.lt
  have N14 := Lib.hid n14
  have l14 := n14.lt
  clear hb n10 n11 n12 n13 n14
  have x0 := N10.out.c.c0
  have r0 := N13.out.c0
  have r1 := N13.out.c1
  have r2 := N13.out.c2
  have r3 := N13.out.c3
  have r4 := N13.out.c4
  have r5 := N13.out.c5
  have r6 := N13.out.c6
  have r7 := N13.out.c7
  have r8 := N13.out.c8
  have r9 := N13.out.c9
  have hz := fun w => (HZR w).out
  have hbs := HB.out.size
  have l10_1 := lt_plus1 N10.out.lt
  have l10_2 := lt_plus2 N10.out.lt
  have l10_3 := lt_plus3 N10.out.lt
  have l10_4 := lt_plus4 N10.out.lt
  have l10_5 := lt_plus5 N10.out.lt
  have l14_1 := lt_plus1 N14.out.lt
  have l14_2 := lt_plus2 N14.out.lt
  have l14_3 := lt_plus3 N14.out.lt
  have l14_4 := lt_plus4 N14.out.lt
  have l14_5 := lt_plus5 N14.out.lt
  go_wp2_with fail
  refine (HO1 _).out.mono ?_
  rintro e w7 ⟨rfl, X7, Y7, rfl⟩
  have s0 := N14.out.c.c0
  have s1 := N14.out.c.c1
  have s2 := N14.out.c.c2
  have s3 := N14.out.c.c3
  have s4 := N14.out.c.c4
  have s5 := N14.out.c.c5
  have s6 := N14.out.c.c6
  have s7 := N14.out.c.c7
  have s8 := N14.out.c.c8
  have s9 := N14.out.c.c9
  have s10 := N14.out.c.c10
  have f0 := N14.out.f 0
  have f1 := N14.out.f 1
  have f2 := N14.out.f 2
  have f3 := N14.out.f 3
  have f4 := N14.out.f 4
  have f5 := N14.out.f 5
  have f6 := N14.out.f 6
  have f7 := N14.out.f 7
  have f8 := N14.out.f 8
  have f9 := N14.out.f 9
  have f10 := N14.out.f 10
  have hn1 : ¬ (wx.heap.size = w1.heap.size) := by omega
  have hn2 : ¬ (w1.heap.size = wx.heap.size) := by omega
  go_wp2_with fail
  refine (HP _).out.mono ?_
  rintro e w8 ⟨rfl, L8, k8, rfl⟩
  have hb := HB.out
  go_wp2_with fail
  refine (HC _).out.mono ?_
  rintro e w9 ⟨rfl, hb9⟩
  go_wp2
  go_ret2
  refine ⟨rfl, bl_trans ?_ hb9.below⟩
  repeat' (first | (with_reducible exact hb) | (with_reducible refine below_drewN ?_ _) | (with_reducible refine Below.drew ?_) | (with_reducible refine bl_grew ?_ ?_ _) | (with_reducible refine Below.alloc ?_ ?_ _) | (with_reducible refine Below.setCell ?_ ?_ _) | (simp; done) | (simp; omega) | omega)
end Go.Proofs.Ytaebbfaheaghfaa
