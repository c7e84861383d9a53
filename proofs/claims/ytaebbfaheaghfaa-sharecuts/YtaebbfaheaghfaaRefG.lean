/- The contracts of falseworkref01, seventh part: Times. -/
import Derived.Test.YtaebbfaheaghfaaTimesR
namespace Go.Proofs.Ytaebbfaheaghfaa
open Go.RowKit

set_option maxHeartbeats 80000000 in
set_option maxRecDepth 100000 in
theorem times_core (m k : Bool) (a b x y : Int) (w : World) (ea : Hid (V a = Nm m x)) (eb : Hid (V b = Nm k y)) (ia : I a) (ib : I b) (hx : 0 ≤ x ∧ x ≤ 9223372036854775808) (hy : 0 ≤ y ∧ y ≤ 9223372036854775808) :
    Calls Try.prog 17 #[.int .i64 a, .int .i64 b] w fun e w' => e = .returned (Nm ((m != k) && !(x * y == 0)) (x * y)) ∧ Below w.heap.size w w' := by
  have HX := Lib.hid (low4x x hx.1 hx.2)
  have HY := Lib.hid (low4x y hy.1 hy.2)
  have p0 := dgt_bd x 0
  have p1 := dgt_bd x 1
  have p2 := dgt_bd x 2
  have p3 := dgt_bd x 3
  have Z0 := dy_bd _ y p0 hy.1 hy.2
  have Z1 := dy_bd _ y p1 hy.1 hy.2
  have Z2 := dy_bd _ y p2 hy.1 hy.2
  have Z3 := dy_bd _ y p3 hy.1 hy.2
  have C := Lib.hid (col_mul _ _ _ _ x y HX.out)
  obtain ⟨s0, hs0⟩ : ∃ s : Int, s = 0 := ⟨_, rfl⟩
  obtain ⟨s1, hs1⟩ : ∃ s, s = s0 + dgt x 0 * y * 1 := ⟨_, rfl⟩
  obtain ⟨s2, hs2⟩ : ∃ s, s = s1 + dgt x 1 * y * 65536 := ⟨_, rfl⟩
  obtain ⟨s3, hs3⟩ : ∃ s, s = s2 + dgt x 2 * y * 4294967296 := ⟨_, rfl⟩
  obtain ⟨s4, hs4⟩ : ∃ s, s = s3 + dgt x 3 * y * 281474976710656 := ⟨_, rfl⟩
  have t0 : 0 ≤ s0 ∧ s0 < 22300745198530623141535718272648361505980416 := by omega
  have S0 := Lib.hid hs0
  have t1 : 0 ≤ s1 ∧ s1 < 22300745198530623141535718272648361505980416 := by omega
  have S1 := Lib.hid hs1
  have t2 : 0 ≤ s2 ∧ s2 < 22300745198530623141535718272648361505980416 := by omega
  have S2 := Lib.hid hs2
  have t3 : 0 ≤ s3 ∧ s3 < 22300745198530623141535718272648361505980416 := by omega
  have S3 := Lib.hid hs3
  have t4 : 0 ≤ s4 ∧ s4 < 22300745198530623141535718272648361505980416 := by omega
  have S4 := Lib.hid hs4
  have E : Hid (s4 = x * y) := by have := C.out; show s4 = x * y; omega
  clear hs1 hs2 hs3 hs4 C Z0 Z1 Z2 Z3 HX HY p0 p1 p2 p3
  have HZ := fun w => Lib.hid (eq_D s4 t4.1 (by omega) w)
  have hA := of_any a
  have hB := of_any b
  rw [ea.out] at hA
  rw [eb.out] at hB
  have HA := fun w => Lib.hid (hA w ia)
  have HB := fun w => Lib.hid (hB w ib)
  clear hA hB ea eb
  go_enter Try.func17, Try.ntmps17
  go_wp2_with fail
  refine (HA _).out.mono ?_
  rintro e w1 ⟨rfl, J1, J2, rfl⟩
  go_wp2_with fail
  refine (HB _).out.mono ?_
  rintro e w2 ⟨rfl, J3, J4, rfl⟩
  clear HA HB ia ib
  go_wp2
  refine wp_loop_rounds 5 ?_
  rw [rounds_succ]
  refine times_r0 a b x y s0 s1 m k w _ _ _ _ _ _ _ _ _ _ _ _ _ _ _ _ _ _ _ _ _ _ _ _ _ _ _ _ _ _ _ _ _ _ _ _ _ _ _ _ _ _ _ _ _ _ _ _ _ _ _ _ _ _ (Lib.hid ?_) (Lib.hid ?_) (Lib.hid ?_) (Lib.hid ?_) (Lib.hid ?_) S1 hy t0 t1 (Lib.hid ?_)
  · go_grown
  · refine ⟨?_, ?_, ?_⟩
    all_goals first | (intro i; simp [go_sem]; done) | (constructor <;> simp [go_sem, dgt_zero]; done) | (simp; done) | (simp; omega)
  · refine ⟨?_, ?_, ?_⟩
    all_goals first | (intro i; simp [go_sem]; done) | (constructor <;> simp [go_sem]; done) | (simp; done) | (simp; omega)
  · refine ⟨?_, ?_, ?_⟩
    all_goals first | (intro i; simp [go_sem]; done) | (constructor <;> simp [go_sem]; done) | (simp; done) | (simp; omega)
  · refine ⟨?_, ?_, ?_⟩
    all_goals first | (intro i; simp [go_sem]; done) | (constructor <;> simp [go_sem, dgt_zero, hs0]; done) | (simp; done) | (simp; omega)
  intro u9 u15 u16 u17 u18 u19 u20 u21 u22 u23 u24 u25 u26 u27 u28 u29 u30 u31 u32 u33 u34 u35 u36 u37 u38 u39 u40 u41 u42 u43 u44 wr hb n4 n5 n6 n7
  clear hs0
  rw [rounds_succ]
  refine times_r1 a b x y s1 s2 m k w _ _ _ _ _ _ _ _ _ _ _ _ _ _ _ _ _ _ _ _ _ _ _ _ _ _ _ _ _ _ _ _ _ _ _ _ _ _ _ _ _ _ _ _ _ _ _ _ _ _ _ _ _ _ (Lib.hid hb) (Lib.hid n4) (Lib.hid n5) (Lib.hid n6) (Lib.hid n7) S2 hy t1 t2 (Lib.hid ?_)
  clear hb n4 n5 n6 n7
  intro u9 u15 u16 u17 u18 u19 u20 u21 u22 u23 u24 u25 u26 u27 u28 u29 u30 u31 u32 u33 u34 u35 u36 u37 u38 u39 u40 u41 u42 u43 u44 wr hb n4 n5 n6 n7
  rw [rounds_succ]
  refine times_r2 a b x y s2 s3 m k w _ _ _ _ _ _ _ _ _ _ _ _ _ _ _ _ _ _ _ _ _ _ _ _ _ _ _ _ _ _ _ _ _ _ _ _ _ _ _ _ _ _ _ _ _ _ _ _ _ _ _ _ _ _ (Lib.hid hb) (Lib.hid n4) (Lib.hid n5) (Lib.hid n6) (Lib.hid n7) S3 hy t2 t3 (Lib.hid ?_)
  clear hb n4 n5 n6 n7
  intro u9 u15 u16 u17 u18 u19 u20 u21 u22 u23 u24 u25 u26 u27 u28 u29 u30 u31 u32 u33 u34 u35 u36 u37 u38 u39 u40 u41 u42 u43 u44 wr hb n4 n5 n6 n7
  rw [rounds_succ]
  refine times_r3 a b x y s3 s4 m k w _ _ _ _ _ _ _ _ _ _ _ _ _ _ _ _ _ _ _ _ _ _ _ _ _ _ _ _ _ _ _ _ _ _ _ _ _ _ _ _ _ _ _ _ _ _ _ _ _ _ _ _ _ _ (Lib.hid hb) (Lib.hid n4) (Lib.hid n5) (Lib.hid n6) (Lib.hid n7) S4 hy t3 t4 (Lib.hid ?_)
  clear hb n4 n5 n6 n7
  intro u9 u15 u16 u17 u18 u19 u20 u21 u22 u23 u24 u25 u26 u27 u28 u29 u30 u31 u32 u33 u34 u35 u36 u37 u38 u39 u40 u41 u42 u43 u44 wr hb n4 n5 n6 n7
  rw [rounds_succ]
  have l4 := n4.lt
  have l5 := n5.lt
  have l6 := n6.lt
  have l7 := n7.lt
  have N4 := Lib.hid n4
  have N5 := Lib.hid n5
  have N6 := Lib.hid n6
  have N7 := Lib.hid n7
  have HB := Lib.hid hb
  clear n4 n5 n6 n7 hb hx hy
  have x0 := N5.out.c.c0
  have y0 := N6.out.c.c0
  have o0 := N7.out.c.c0
  have o1 := N7.out.c.c1
  have o2 := N7.out.c.c2
  have o3 := N7.out.c.c3
  have o4 := N7.out.c.c4
  have o5 := N7.out.c.c5
  have o6 := N7.out.c.c6
  have o7 := N7.out.c.c7
  have o8 := N7.out.c.c8
  have o9 := N7.out.c.c9
  have o10 := N7.out.c.c10
  have q0 := N4.out.c.c0
  have q1 := N4.out.c.c1
  have q2 := N4.out.c.c2
  have q3 := N4.out.c.c3
  have q4 := N4.out.c.c4
  have q5 := N4.out.c.c5
  have q6 := N4.out.c.c6
  have q7 := N4.out.c.c7
  have q8 := N4.out.c.c8
  have q9 := N4.out.c.c9
  have q10 := N4.out.c.c10
  have f0 := N4.out.f 0
  have f1 := N4.out.f 1
  have f2 := N4.out.f 2
  have f3 := N4.out.f 3
  have f4 := N4.out.f 4
  have f5 := N4.out.f 5
  have f6 := N4.out.f 6
  have f7 := N4.out.f 7
  have f8 := N4.out.f 8
  have f9 := N4.out.f 9
  have f10 := N4.out.f 10
  have f11 := N7.out.f 0
  have hz := fun w => (HZ w).out
  have hb := HB.out
  clear t0 t1 t2 t3
  cases m <;> cases k
  · go_wp2
    refine bodyPost_ret (v := Nm (false) s4) (by simp [results, Try.results17, go_sem, q0, q1, q2, q3, q4, q5, q6, q7, q8, q9, q10]) rfl ⟨by rw [← E.out]; rfl, ?_⟩
    repeat' (first | (with_reducible exact hb) | (with_reducible refine below_drewN ?_ _) | (with_reducible refine Below.drew ?_) | (with_reducible refine Below.alloc ?_ ?_ _) | (with_reducible refine Below.setCell ?_ ?_ _) | (simp; done) | (simp; omega) | omega)
  · go_wp2
    refine bodyPost_ret (v := Nm (!(s4 == 0)) s4) (by simp [results, Try.results17, go_sem, q0, q1, q2, q3, q4, q5, q6, q7, q8, q9, q10]) rfl ⟨by rw [← E.out]; rfl, ?_⟩
    repeat' (first | (with_reducible exact hb) | (with_reducible refine below_drewN ?_ _) | (with_reducible refine Below.drew ?_) | (with_reducible refine Below.alloc ?_ ?_ _) | (with_reducible refine Below.setCell ?_ ?_ _) | (simp; done) | (simp; omega) | omega)
  · go_wp2
    refine bodyPost_ret (v := Nm (!(s4 == 0)) s4) (by simp [results, Try.results17, go_sem, q0, q1, q2, q3, q4, q5, q6, q7, q8, q9, q10]) rfl ⟨by rw [← E.out]; rfl, ?_⟩
    repeat' (first | (with_reducible exact hb) | (with_reducible refine below_drewN ?_ _) | (with_reducible refine Below.drew ?_) | (with_reducible refine Below.alloc ?_ ?_ _) | (with_reducible refine Below.setCell ?_ ?_ _) | (simp; done) | (simp; omega) | omega)
  · go_wp2
    refine bodyPost_ret (v := Nm (false) s4) (by simp [results, Try.results17, go_sem, q0, q1, q2, q3, q4, q5, q6, q7, q8, q9, q10]) rfl ⟨by rw [← E.out]; rfl, ?_⟩
    repeat' (first | (with_reducible exact hb) | (with_reducible refine below_drewN ?_ _) | (with_reducible refine Below.drew ?_) | (with_reducible refine Below.alloc ?_ ?_ _) | (with_reducible refine Below.setCell ?_ ?_ _) | (simp; done) | (simp; omega) | omega)
end Go.Proofs.Ytaebbfaheaghfaa
