/- The contracts of falseworkref01, seventh part: Times, round 0. The contracts of falseworkref01, seventh part: Times, round 1. The contracts of falseworkref01, seventh part: Times, round 2. The contracts of falseworkref01, seventh part: Times, round 3. -/
import Derived.Test.YtaebbfaheaghfaaTimesA

namespace Go.Proofs.Ytaebbfaheaghfaa
open Go.RowKit

set_option maxHeartbeats 80000000 in
set_option maxRecDepth 100000 in
theorem times_r0 (a b x y s s' : Int) (m k : Bool) (w wr : World) (v2 v3 v10 v11 v12 v13 v14 v45 v46 v47 v48 v49 v50 v51 v52 v53 v54 v55 v56 v57 u9 u15 u16 u17 u18 u19 u20 u21 u22 u23 u24 u25 u26 u27 u28 u29 u30 u31 u32 u33 u34 u35 u36 u37 u38 u39 u40 u41 u42 u43 u44 : Value) (K : Act → World → Prop) (Q : Exit → Act → World → Prop)
    (HB : Hid (Below w.heap.size w wr)) (N4 : Hid (NumAt wr (w.heap.size) false 0)) (N5 : Hid (NumAt wr (w.heap.size + 1 + 1 + 1 + 1 + 1) m x)) (N6 : Hid (NumAt wr (w.heap.size + 1 + 1 + 1 + 1 + 1 + 1) k y)) (N7 : Hid (NumAt wr (w.heap.size + 1 + 1 + 1 + 1 + 1 + 1 + 1) false s))
    (S : Hid (s' = s + dgt x 0 * y * 1)) (hy : 0 ≤ y ∧ y ≤ 9223372036854775808) (t : 0 ≤ s ∧ s < 22300745198530623141535718272648361505980416) (t' : 0 ≤ s' ∧ s' < 22300745198530623141535718272648361505980416)
    (HK : Hid (∀ (u9 u15 u16 u17 u18 u19 u20 u21 u22 u23 u24 u25 u26 u27 u28 u29 u30 u31 u32 u33 u34 u35 u36 u37 u38 u39 u40 u41 u42 u43 u44 : Value) (w' : World), Below w.heap.size w w' → NumAt w' (w.heap.size) false 0 → NumAt w' (w.heap.size + 1 + 1 + 1 + 1 + 1) m x → NumAt w' (w.heap.size + 1 + 1 + 1 + 1 + 1 + 1) k y → NumAt w' (w.heap.size + 1 + 1 + 1 + 1 + 1 + 1 + 1) false s' → K ⟨#[.int .i64 a, .int .i64 b, v2, v3, .pointer (some ⟨w.heap.size, 0, none⟩), .pointer (some ⟨w.heap.size + 1 + 1 + 1 + 1 + 1, 0, none⟩), .pointer (some ⟨w.heap.size + 1 + 1 + 1 + 1 + 1 + 1, 0, none⟩), .pointer (some ⟨w.heap.size + 1 + 1 + 1 + 1 + 1 + 1 + 1, 0, none⟩), .int .i64 1, u9, v10, v11, v12, v13, v14, u15, u16, u17, u18, u19, u20, u21, u22, u23, u24, u25, u26, u27, u28, u29, u30, u31, u32, u33, u34, u35, u36, u37, u38, u39, u40, u41, u42, u43, u44, v45, v46, v47, v48, v49, v50, v51, v52, v53, v54, v55, v56, v57], []⟩ w')) :
    Code.wp Try.prog ((Try.f17.body.bind firstLoop).getD .skip) (Exit.then K Q) ⟨#[.int .i64 a, .int .i64 b, v2, v3, .pointer (some ⟨w.heap.size, 0, none⟩), .pointer (some ⟨w.heap.size + 1 + 1 + 1 + 1 + 1, 0, none⟩), .pointer (some ⟨w.heap.size + 1 + 1 + 1 + 1 + 1 + 1, 0, none⟩), .pointer (some ⟨w.heap.size + 1 + 1 + 1 + 1 + 1 + 1 + 1, 0, none⟩), .int .i64 0, u9, v10, v11, v12, v13, v14, u15, u16, u17, u18, u19, u20, u21, u22, u23, u24, u25, u26, u27, u28, u29, u30, u31, u32, u33, u34, u35, u36, u37, u38, u39, u40, u41, u42, u43, u44, v45, v46, v47, v48, v49, v50, v51, v52, v53, v54, v55, v56, v57], []⟩ wr := by
  refine Code.wp_mono (then_np K Q) ?_
  conv => arg 2; whnf
  have l4 := N4.out.lt
  have l5 := N5.out.lt
  have l6 := N6.out.lt
  have l7 := N7.out.lt
  have p := dgt_bd x 0
  have q0 := dgt_bd y 0
  have r0 := prod16 _ _ p q0
  have q1 := dgt_bd y 1
  have r1 := prod16 _ _ p q1
  have q2 := dgt_bd y 2
  have r2 := prod16 _ _ p q2
  have q3 := dgt_bd y 3
  have r3 := prod16 _ _ p q3
  have Y := Lib.hid (row_mul (dgt x 0) _ _ _ _ y (low4x y hy.1 hy.2))
  have U := Lib.hid (sum_dgt s t.1 (by omega))
  clear p q0 q1 q2 q3 hy
  have x0 := N5.out.c.c1
  have y0 := N6.out.c.c1
  have y1 := N6.out.c.c2
  have y2 := N6.out.c.c3
  have y3 := N6.out.c.c4
  have o0 := N7.out.c.c1
  have o1 := N7.out.c.c2
  have o2 := N7.out.c.c3
  have o3 := N7.out.c.c4
  have o4 := N7.out.c.c5
  have o5 := N7.out.c.c6
  have o6 := N7.out.c.c7
  have o7 := N7.out.c.c8
  have o8 := N7.out.c.c9
  have o9 := N7.out.c.c10
  have f0 := N7.out.f 1
  have f1 := N7.out.f 2
  have f2 := N7.out.f 3
  have f3 := N7.out.f 4
  have f4 := N7.out.f 5
  have f5 := N7.out.f 6
  have f6 := N7.out.f 7
  have f7 := N7.out.f 8
  have f8 := N7.out.f 9
  have f9 := N7.out.f 10
  have v0' := dgt_bd s 0
  have v1' := dgt_bd s 1
  have v2' := dgt_bd s 2
  have v3' := dgt_bd s 3
  have v4' := dgt_bd s 4
  have v5' := dgt_bd s 5
  have v6' := dgt_bd s 6
  have v7' := dgt_bd s 7
  have v8' := dgt_bd s 8
  have v9' := dgt_bd s 9
  have a0 : IntKind.i64.wrap 0 = 0 := by decide
  have b0 : IntKind.u64.wrap (dgt x 0 * dgt y 0) = dgt x 0 * dgt y 0 := IntWalk.u64_in _ ⟨by omega, by omega⟩
  have g0 : IntKind.u64.wrap (dgt s 0 + dgt x 0 * dgt y 0) = dgt s 0 + dgt x 0 * dgt y 0 := IntWalk.u64_in _ ⟨by omega, by omega⟩
  have a1 : IntKind.i64.wrap 1 = 1 := by decide
  have b1 : IntKind.u64.wrap (dgt x 0 * dgt y 1) = dgt x 0 * dgt y 1 := IntWalk.u64_in _ ⟨by omega, by omega⟩
  have g1 : IntKind.u64.wrap (dgt s 1 + dgt x 0 * dgt y 1) = dgt s 1 + dgt x 0 * dgt y 1 := IntWalk.u64_in _ ⟨by omega, by omega⟩
  have a2 : IntKind.i64.wrap 2 = 2 := by decide
  have b2 : IntKind.u64.wrap (dgt x 0 * dgt y 2) = dgt x 0 * dgt y 2 := IntWalk.u64_in _ ⟨by omega, by omega⟩
  have g2 : IntKind.u64.wrap (dgt s 2 + dgt x 0 * dgt y 2) = dgt s 2 + dgt x 0 * dgt y 2 := IntWalk.u64_in _ ⟨by omega, by omega⟩
  have a3 : IntKind.i64.wrap 3 = 3 := by decide
  have b3 : IntKind.u64.wrap (dgt x 0 * dgt y 3) = dgt x 0 * dgt y 3 := IntWalk.u64_in _ ⟨by omega, by omega⟩
  have g3 : IntKind.u64.wrap (dgt s 3 + dgt x 0 * dgt y 3) = dgt s 3 + dgt x 0 * dgt y 3 := IntWalk.u64_in _ ⟨by omega, by omega⟩
  go_wp2
  refine wp_loop_rounds 5 ?_
  iterate 4 (rw [rounds_succ]; go_wp2; go_region; go_wp2)
  rw [rounds_succ]
  go_wp2_with fail
  refine (carry_x s' (dgt s 0 + dgt x 0 * dgt y 0) (dgt s 1 + dgt x 0 * dgt y 1) (dgt s 2 + dgt x 0 * dgt y 2) (dgt s 3 + dgt x 0 * dgt y 3) (dgt s 4) (dgt s 5) (dgt s 6) (dgt s 7) (dgt s 8) (dgt s 9) _ (by omega) (by omega) (by omega) (by omega) (by omega) (by omega) (by omega) (by omega) (by omega) (by omega) (by have := Y.out; have := S.out; have := U.out; omega) (by omega)).mono ?_
  rintro e w3 ⟨rfl, A0, B0, n0, rfl⟩
  go_wp2
  clear a0 b0 g0 r0 a1 b1 g1 r1 a2 b2 g2 r2 a3 b3 g3 r3 v0' v1' v2' v3' v4' v5' v6' v7' v8' v9'
  have hb := HB.out
  refine HK.out _ _ _ _ _ _ _ _ _ _ _ _ _ _ _ _ _ _ _ _ _ _ _ _ _ _ _ _ _ _ _ _ ?_ ?_ ?_ ?_ ?_
  · repeat' (first | (with_reducible exact hb) | (with_reducible refine below_drewN ?_ _) | (with_reducible refine Below.drew ?_) | (with_reducible refine Below.alloc ?_ ?_ _) | (with_reducible refine Below.setCell ?_ ?_ _) | (simp; done) | (simp; omega) | omega)
  · repeat' (with_reducible first | exact N4.out | refine NumAt.drewN ?_ _ | refine NumAt.alloc ?_ _ | refine NumAt.other ?_ _ (by omega))
  · repeat' (with_reducible first | exact N5.out | refine NumAt.drewN ?_ _ | refine NumAt.alloc ?_ _ | refine NumAt.other ?_ _ (by omega))
  · repeat' (with_reducible first | exact N6.out | refine NumAt.drewN ?_ _ | refine NumAt.alloc ?_ _ | refine NumAt.other ?_ _ (by omega))
  · exact (((Room.store ((((N7.out.room.set 1 _ (by omega)).set 2 _ (by omega)).set 3 _ (by omega)).set 4 _ (by omega)) s').alloc A0).alloc B0).drewN _
end Go.Proofs.Ytaebbfaheaghfaa

namespace Go.Proofs.Ytaebbfaheaghfaa
open Go.RowKit

set_option maxHeartbeats 80000000 in
set_option maxRecDepth 100000 in
theorem times_r1 (a b x y s s' : Int) (m k : Bool) (w wr : World) (v2 v3 v10 v11 v12 v13 v14 v45 v46 v47 v48 v49 v50 v51 v52 v53 v54 v55 v56 v57 u9 u15 u16 u17 u18 u19 u20 u21 u22 u23 u24 u25 u26 u27 u28 u29 u30 u31 u32 u33 u34 u35 u36 u37 u38 u39 u40 u41 u42 u43 u44 : Value) (K : Act → World → Prop) (Q : Exit → Act → World → Prop)
    (HB : Hid (Below w.heap.size w wr)) (N4 : Hid (NumAt wr (w.heap.size) false 0)) (N5 : Hid (NumAt wr (w.heap.size + 1 + 1 + 1 + 1 + 1) m x)) (N6 : Hid (NumAt wr (w.heap.size + 1 + 1 + 1 + 1 + 1 + 1) k y)) (N7 : Hid (NumAt wr (w.heap.size + 1 + 1 + 1 + 1 + 1 + 1 + 1) false s))
    (S : Hid (s' = s + dgt x 1 * y * 65536)) (hy : 0 ≤ y ∧ y ≤ 9223372036854775808) (t : 0 ≤ s ∧ s < 22300745198530623141535718272648361505980416) (t' : 0 ≤ s' ∧ s' < 22300745198530623141535718272648361505980416)
    (HK : Hid (∀ (u9 u15 u16 u17 u18 u19 u20 u21 u22 u23 u24 u25 u26 u27 u28 u29 u30 u31 u32 u33 u34 u35 u36 u37 u38 u39 u40 u41 u42 u43 u44 : Value) (w' : World), Below w.heap.size w w' → NumAt w' (w.heap.size) false 0 → NumAt w' (w.heap.size + 1 + 1 + 1 + 1 + 1) m x → NumAt w' (w.heap.size + 1 + 1 + 1 + 1 + 1 + 1) k y → NumAt w' (w.heap.size + 1 + 1 + 1 + 1 + 1 + 1 + 1) false s' → K ⟨#[.int .i64 a, .int .i64 b, v2, v3, .pointer (some ⟨w.heap.size, 0, none⟩), .pointer (some ⟨w.heap.size + 1 + 1 + 1 + 1 + 1, 0, none⟩), .pointer (some ⟨w.heap.size + 1 + 1 + 1 + 1 + 1 + 1, 0, none⟩), .pointer (some ⟨w.heap.size + 1 + 1 + 1 + 1 + 1 + 1 + 1, 0, none⟩), .int .i64 2, u9, v10, v11, v12, v13, v14, u15, u16, u17, u18, u19, u20, u21, u22, u23, u24, u25, u26, u27, u28, u29, u30, u31, u32, u33, u34, u35, u36, u37, u38, u39, u40, u41, u42, u43, u44, v45, v46, v47, v48, v49, v50, v51, v52, v53, v54, v55, v56, v57], []⟩ w')) :
    Code.wp Try.prog ((Try.f17.body.bind firstLoop).getD .skip) (Exit.then K Q) ⟨#[.int .i64 a, .int .i64 b, v2, v3, .pointer (some ⟨w.heap.size, 0, none⟩), .pointer (some ⟨w.heap.size + 1 + 1 + 1 + 1 + 1, 0, none⟩), .pointer (some ⟨w.heap.size + 1 + 1 + 1 + 1 + 1 + 1, 0, none⟩), .pointer (some ⟨w.heap.size + 1 + 1 + 1 + 1 + 1 + 1 + 1, 0, none⟩), .int .i64 1, u9, v10, v11, v12, v13, v14, u15, u16, u17, u18, u19, u20, u21, u22, u23, u24, u25, u26, u27, u28, u29, u30, u31, u32, u33, u34, u35, u36, u37, u38, u39, u40, u41, u42, u43, u44, v45, v46, v47, v48, v49, v50, v51, v52, v53, v54, v55, v56, v57], []⟩ wr := by
  refine Code.wp_mono (then_np K Q) ?_
  conv => arg 2; whnf
  have l4 := N4.out.lt
  have l5 := N5.out.lt
  have l6 := N6.out.lt
  have l7 := N7.out.lt
  have p := dgt_bd x 1
  have q0 := dgt_bd y 0
  have r0 := prod16 _ _ p q0
  have q1 := dgt_bd y 1
  have r1 := prod16 _ _ p q1
  have q2 := dgt_bd y 2
  have r2 := prod16 _ _ p q2
  have q3 := dgt_bd y 3
  have r3 := prod16 _ _ p q3
  have Y := Lib.hid (row_mul (dgt x 1) _ _ _ _ y (low4x y hy.1 hy.2))
  have U := Lib.hid (sum_dgt s t.1 (by omega))
  clear p q0 q1 q2 q3 hy
  have x1 := N5.out.c.c2
  have y0 := N6.out.c.c1
  have y1 := N6.out.c.c2
  have y2 := N6.out.c.c3
  have y3 := N6.out.c.c4
  have o0 := N7.out.c.c1
  have o1 := N7.out.c.c2
  have o2 := N7.out.c.c3
  have o3 := N7.out.c.c4
  have o4 := N7.out.c.c5
  have o5 := N7.out.c.c6
  have o6 := N7.out.c.c7
  have o7 := N7.out.c.c8
  have o8 := N7.out.c.c9
  have o9 := N7.out.c.c10
  have f0 := N7.out.f 1
  have f1 := N7.out.f 2
  have f2 := N7.out.f 3
  have f3 := N7.out.f 4
  have f4 := N7.out.f 5
  have f5 := N7.out.f 6
  have f6 := N7.out.f 7
  have f7 := N7.out.f 8
  have f8 := N7.out.f 9
  have f9 := N7.out.f 10
  have v0' := dgt_bd s 0
  have v1' := dgt_bd s 1
  have v2' := dgt_bd s 2
  have v3' := dgt_bd s 3
  have v4' := dgt_bd s 4
  have v5' := dgt_bd s 5
  have v6' := dgt_bd s 6
  have v7' := dgt_bd s 7
  have v8' := dgt_bd s 8
  have v9' := dgt_bd s 9
  have a0 : IntKind.i64.wrap 1 = 1 := by decide
  have b0 : IntKind.u64.wrap (dgt x 1 * dgt y 0) = dgt x 1 * dgt y 0 := IntWalk.u64_in _ ⟨by omega, by omega⟩
  have g0 : IntKind.u64.wrap (dgt s 1 + dgt x 1 * dgt y 0) = dgt s 1 + dgt x 1 * dgt y 0 := IntWalk.u64_in _ ⟨by omega, by omega⟩
  have a1 : IntKind.i64.wrap 2 = 2 := by decide
  have b1 : IntKind.u64.wrap (dgt x 1 * dgt y 1) = dgt x 1 * dgt y 1 := IntWalk.u64_in _ ⟨by omega, by omega⟩
  have g1 : IntKind.u64.wrap (dgt s 2 + dgt x 1 * dgt y 1) = dgt s 2 + dgt x 1 * dgt y 1 := IntWalk.u64_in _ ⟨by omega, by omega⟩
  have a2 : IntKind.i64.wrap 3 = 3 := by decide
  have b2 : IntKind.u64.wrap (dgt x 1 * dgt y 2) = dgt x 1 * dgt y 2 := IntWalk.u64_in _ ⟨by omega, by omega⟩
  have g2 : IntKind.u64.wrap (dgt s 3 + dgt x 1 * dgt y 2) = dgt s 3 + dgt x 1 * dgt y 2 := IntWalk.u64_in _ ⟨by omega, by omega⟩
  have a3 : IntKind.i64.wrap 4 = 4 := by decide
  have b3 : IntKind.u64.wrap (dgt x 1 * dgt y 3) = dgt x 1 * dgt y 3 := IntWalk.u64_in _ ⟨by omega, by omega⟩
  have g3 : IntKind.u64.wrap (dgt s 4 + dgt x 1 * dgt y 3) = dgt s 4 + dgt x 1 * dgt y 3 := IntWalk.u64_in _ ⟨by omega, by omega⟩
  go_wp2
  refine wp_loop_rounds 5 ?_
  iterate 4 (rw [rounds_succ]; go_wp2; go_region; go_wp2)
  rw [rounds_succ]
  go_wp2_with fail
  refine (carry_x s' (dgt s 0) (dgt s 1 + dgt x 1 * dgt y 0) (dgt s 2 + dgt x 1 * dgt y 1) (dgt s 3 + dgt x 1 * dgt y 2) (dgt s 4 + dgt x 1 * dgt y 3) (dgt s 5) (dgt s 6) (dgt s 7) (dgt s 8) (dgt s 9) _ (by omega) (by omega) (by omega) (by omega) (by omega) (by omega) (by omega) (by omega) (by omega) (by omega) (by have := Y.out; have := S.out; have := U.out; omega) (by omega)).mono ?_
  rintro e w3 ⟨rfl, A0, B0, n0, rfl⟩
  go_wp2
  clear a0 b0 g0 r0 a1 b1 g1 r1 a2 b2 g2 r2 a3 b3 g3 r3 v0' v1' v2' v3' v4' v5' v6' v7' v8' v9'
  have hb := HB.out
  refine HK.out _ _ _ _ _ _ _ _ _ _ _ _ _ _ _ _ _ _ _ _ _ _ _ _ _ _ _ _ _ _ _ _ ?_ ?_ ?_ ?_ ?_
  · repeat' (first | (with_reducible exact hb) | (with_reducible refine below_drewN ?_ _) | (with_reducible refine Below.drew ?_) | (with_reducible refine Below.alloc ?_ ?_ _) | (with_reducible refine Below.setCell ?_ ?_ _) | (simp; done) | (simp; omega) | omega)
  · repeat' (with_reducible first | exact N4.out | refine NumAt.drewN ?_ _ | refine NumAt.alloc ?_ _ | refine NumAt.other ?_ _ (by omega))
  · repeat' (with_reducible first | exact N5.out | refine NumAt.drewN ?_ _ | refine NumAt.alloc ?_ _ | refine NumAt.other ?_ _ (by omega))
  · repeat' (with_reducible first | exact N6.out | refine NumAt.drewN ?_ _ | refine NumAt.alloc ?_ _ | refine NumAt.other ?_ _ (by omega))
  · exact (((Room.store ((((N7.out.room.set 2 _ (by omega)).set 3 _ (by omega)).set 4 _ (by omega)).set 5 _ (by omega)) s').alloc A0).alloc B0).drewN _
end Go.Proofs.Ytaebbfaheaghfaa

namespace Go.Proofs.Ytaebbfaheaghfaa
open Go.RowKit

set_option maxHeartbeats 80000000 in
set_option maxRecDepth 100000 in
theorem times_r2 (a b x y s s' : Int) (m k : Bool) (w wr : World) (v2 v3 v10 v11 v12 v13 v14 v45 v46 v47 v48 v49 v50 v51 v52 v53 v54 v55 v56 v57 u9 u15 u16 u17 u18 u19 u20 u21 u22 u23 u24 u25 u26 u27 u28 u29 u30 u31 u32 u33 u34 u35 u36 u37 u38 u39 u40 u41 u42 u43 u44 : Value) (K : Act → World → Prop) (Q : Exit → Act → World → Prop)
    (HB : Hid (Below w.heap.size w wr)) (N4 : Hid (NumAt wr (w.heap.size) false 0)) (N5 : Hid (NumAt wr (w.heap.size + 1 + 1 + 1 + 1 + 1) m x)) (N6 : Hid (NumAt wr (w.heap.size + 1 + 1 + 1 + 1 + 1 + 1) k y)) (N7 : Hid (NumAt wr (w.heap.size + 1 + 1 + 1 + 1 + 1 + 1 + 1) false s))
    (S : Hid (s' = s + dgt x 2 * y * 4294967296)) (hy : 0 ≤ y ∧ y ≤ 9223372036854775808) (t : 0 ≤ s ∧ s < 22300745198530623141535718272648361505980416) (t' : 0 ≤ s' ∧ s' < 22300745198530623141535718272648361505980416)
    (HK : Hid (∀ (u9 u15 u16 u17 u18 u19 u20 u21 u22 u23 u24 u25 u26 u27 u28 u29 u30 u31 u32 u33 u34 u35 u36 u37 u38 u39 u40 u41 u42 u43 u44 : Value) (w' : World), Below w.heap.size w w' → NumAt w' (w.heap.size) false 0 → NumAt w' (w.heap.size + 1 + 1 + 1 + 1 + 1) m x → NumAt w' (w.heap.size + 1 + 1 + 1 + 1 + 1 + 1) k y → NumAt w' (w.heap.size + 1 + 1 + 1 + 1 + 1 + 1 + 1) false s' → K ⟨#[.int .i64 a, .int .i64 b, v2, v3, .pointer (some ⟨w.heap.size, 0, none⟩), .pointer (some ⟨w.heap.size + 1 + 1 + 1 + 1 + 1, 0, none⟩), .pointer (some ⟨w.heap.size + 1 + 1 + 1 + 1 + 1 + 1, 0, none⟩), .pointer (some ⟨w.heap.size + 1 + 1 + 1 + 1 + 1 + 1 + 1, 0, none⟩), .int .i64 3, u9, v10, v11, v12, v13, v14, u15, u16, u17, u18, u19, u20, u21, u22, u23, u24, u25, u26, u27, u28, u29, u30, u31, u32, u33, u34, u35, u36, u37, u38, u39, u40, u41, u42, u43, u44, v45, v46, v47, v48, v49, v50, v51, v52, v53, v54, v55, v56, v57], []⟩ w')) :
    Code.wp Try.prog ((Try.f17.body.bind firstLoop).getD .skip) (Exit.then K Q) ⟨#[.int .i64 a, .int .i64 b, v2, v3, .pointer (some ⟨w.heap.size, 0, none⟩), .pointer (some ⟨w.heap.size + 1 + 1 + 1 + 1 + 1, 0, none⟩), .pointer (some ⟨w.heap.size + 1 + 1 + 1 + 1 + 1 + 1, 0, none⟩), .pointer (some ⟨w.heap.size + 1 + 1 + 1 + 1 + 1 + 1 + 1, 0, none⟩), .int .i64 2, u9, v10, v11, v12, v13, v14, u15, u16, u17, u18, u19, u20, u21, u22, u23, u24, u25, u26, u27, u28, u29, u30, u31, u32, u33, u34, u35, u36, u37, u38, u39, u40, u41, u42, u43, u44, v45, v46, v47, v48, v49, v50, v51, v52, v53, v54, v55, v56, v57], []⟩ wr := by
  refine Code.wp_mono (then_np K Q) ?_
  conv => arg 2; whnf
  have l4 := N4.out.lt
  have l5 := N5.out.lt
  have l6 := N6.out.lt
  have l7 := N7.out.lt
  have p := dgt_bd x 2
  have q0 := dgt_bd y 0
  have r0 := prod16 _ _ p q0
  have q1 := dgt_bd y 1
  have r1 := prod16 _ _ p q1
  have q2 := dgt_bd y 2
  have r2 := prod16 _ _ p q2
  have q3 := dgt_bd y 3
  have r3 := prod16 _ _ p q3
  have Y := Lib.hid (row_mul (dgt x 2) _ _ _ _ y (low4x y hy.1 hy.2))
  have U := Lib.hid (sum_dgt s t.1 (by omega))
  clear p q0 q1 q2 q3 hy
  have x2 := N5.out.c.c3
  have y0 := N6.out.c.c1
  have y1 := N6.out.c.c2
  have y2 := N6.out.c.c3
  have y3 := N6.out.c.c4
  have o0 := N7.out.c.c1
  have o1 := N7.out.c.c2
  have o2 := N7.out.c.c3
  have o3 := N7.out.c.c4
  have o4 := N7.out.c.c5
  have o5 := N7.out.c.c6
  have o6 := N7.out.c.c7
  have o7 := N7.out.c.c8
  have o8 := N7.out.c.c9
  have o9 := N7.out.c.c10
  have f0 := N7.out.f 1
  have f1 := N7.out.f 2
  have f2 := N7.out.f 3
  have f3 := N7.out.f 4
  have f4 := N7.out.f 5
  have f5 := N7.out.f 6
  have f6 := N7.out.f 7
  have f7 := N7.out.f 8
  have f8 := N7.out.f 9
  have f9 := N7.out.f 10
  have v0' := dgt_bd s 0
  have v1' := dgt_bd s 1
  have v2' := dgt_bd s 2
  have v3' := dgt_bd s 3
  have v4' := dgt_bd s 4
  have v5' := dgt_bd s 5
  have v6' := dgt_bd s 6
  have v7' := dgt_bd s 7
  have v8' := dgt_bd s 8
  have v9' := dgt_bd s 9
  have a0 : IntKind.i64.wrap 2 = 2 := by decide
  have b0 : IntKind.u64.wrap (dgt x 2 * dgt y 0) = dgt x 2 * dgt y 0 := IntWalk.u64_in _ ⟨by omega, by omega⟩
  have g0 : IntKind.u64.wrap (dgt s 2 + dgt x 2 * dgt y 0) = dgt s 2 + dgt x 2 * dgt y 0 := IntWalk.u64_in _ ⟨by omega, by omega⟩
  have a1 : IntKind.i64.wrap 3 = 3 := by decide
  have b1 : IntKind.u64.wrap (dgt x 2 * dgt y 1) = dgt x 2 * dgt y 1 := IntWalk.u64_in _ ⟨by omega, by omega⟩
  have g1 : IntKind.u64.wrap (dgt s 3 + dgt x 2 * dgt y 1) = dgt s 3 + dgt x 2 * dgt y 1 := IntWalk.u64_in _ ⟨by omega, by omega⟩
  have a2 : IntKind.i64.wrap 4 = 4 := by decide
  have b2 : IntKind.u64.wrap (dgt x 2 * dgt y 2) = dgt x 2 * dgt y 2 := IntWalk.u64_in _ ⟨by omega, by omega⟩
  have g2 : IntKind.u64.wrap (dgt s 4 + dgt x 2 * dgt y 2) = dgt s 4 + dgt x 2 * dgt y 2 := IntWalk.u64_in _ ⟨by omega, by omega⟩
  have a3 : IntKind.i64.wrap 5 = 5 := by decide
  have b3 : IntKind.u64.wrap (dgt x 2 * dgt y 3) = dgt x 2 * dgt y 3 := IntWalk.u64_in _ ⟨by omega, by omega⟩
  have g3 : IntKind.u64.wrap (dgt s 5 + dgt x 2 * dgt y 3) = dgt s 5 + dgt x 2 * dgt y 3 := IntWalk.u64_in _ ⟨by omega, by omega⟩
  go_wp2
  refine wp_loop_rounds 5 ?_
  iterate 4 (rw [rounds_succ]; go_wp2; go_region; go_wp2)
  rw [rounds_succ]
  go_wp2_with fail
  refine (carry_x s' (dgt s 0) (dgt s 1) (dgt s 2 + dgt x 2 * dgt y 0) (dgt s 3 + dgt x 2 * dgt y 1) (dgt s 4 + dgt x 2 * dgt y 2) (dgt s 5 + dgt x 2 * dgt y 3) (dgt s 6) (dgt s 7) (dgt s 8) (dgt s 9) _ (by omega) (by omega) (by omega) (by omega) (by omega) (by omega) (by omega) (by omega) (by omega) (by omega) (by have := Y.out; have := S.out; have := U.out; omega) (by omega)).mono ?_
  rintro e w3 ⟨rfl, A0, B0, n0, rfl⟩
  go_wp2
  clear a0 b0 g0 r0 a1 b1 g1 r1 a2 b2 g2 r2 a3 b3 g3 r3 v0' v1' v2' v3' v4' v5' v6' v7' v8' v9'
  have hb := HB.out
  refine HK.out _ _ _ _ _ _ _ _ _ _ _ _ _ _ _ _ _ _ _ _ _ _ _ _ _ _ _ _ _ _ _ _ ?_ ?_ ?_ ?_ ?_
  · repeat' (first | (with_reducible exact hb) | (with_reducible refine below_drewN ?_ _) | (with_reducible refine Below.drew ?_) | (with_reducible refine Below.alloc ?_ ?_ _) | (with_reducible refine Below.setCell ?_ ?_ _) | (simp; done) | (simp; omega) | omega)
  · repeat' (with_reducible first | exact N4.out | refine NumAt.drewN ?_ _ | refine NumAt.alloc ?_ _ | refine NumAt.other ?_ _ (by omega))
  · repeat' (with_reducible first | exact N5.out | refine NumAt.drewN ?_ _ | refine NumAt.alloc ?_ _ | refine NumAt.other ?_ _ (by omega))
  · repeat' (with_reducible first | exact N6.out | refine NumAt.drewN ?_ _ | refine NumAt.alloc ?_ _ | refine NumAt.other ?_ _ (by omega))
  · exact (((Room.store ((((N7.out.room.set 3 _ (by omega)).set 4 _ (by omega)).set 5 _ (by omega)).set 6 _ (by omega)) s').alloc A0).alloc B0).drewN _
end Go.Proofs.Ytaebbfaheaghfaa

namespace Go.Proofs.Ytaebbfaheaghfaa
open Go.RowKit

set_option maxHeartbeats 80000000 in
set_option maxRecDepth 100000 in
theorem times_r3 (a b x y s s' : Int) (m k : Bool) (w wr : World) (v2 v3 v10 v11 v12 v13 v14 v45 v46 v47 v48 v49 v50 v51 v52 v53 v54 v55 v56 v57 u9 u15 u16 u17 u18 u19 u20 u21 u22 u23 u24 u25 u26 u27 u28 u29 u30 u31 u32 u33 u34 u35 u36 u37 u38 u39 u40 u41 u42 u43 u44 : Value) (K : Act → World → Prop) (Q : Exit → Act → World → Prop)
    (HB : Hid (Below w.heap.size w wr)) (N4 : Hid (NumAt wr (w.heap.size) false 0)) (N5 : Hid (NumAt wr (w.heap.size + 1 + 1 + 1 + 1 + 1) m x)) (N6 : Hid (NumAt wr (w.heap.size + 1 + 1 + 1 + 1 + 1 + 1) k y)) (N7 : Hid (NumAt wr (w.heap.size + 1 + 1 + 1 + 1 + 1 + 1 + 1) false s))
    (S : Hid (s' = s + dgt x 3 * y * 281474976710656)) (hy : 0 ≤ y ∧ y ≤ 9223372036854775808) (t : 0 ≤ s ∧ s < 22300745198530623141535718272648361505980416) (t' : 0 ≤ s' ∧ s' < 22300745198530623141535718272648361505980416)
    (HK : Hid (∀ (u9 u15 u16 u17 u18 u19 u20 u21 u22 u23 u24 u25 u26 u27 u28 u29 u30 u31 u32 u33 u34 u35 u36 u37 u38 u39 u40 u41 u42 u43 u44 : Value) (w' : World), Below w.heap.size w w' → NumAt w' (w.heap.size) false 0 → NumAt w' (w.heap.size + 1 + 1 + 1 + 1 + 1) m x → NumAt w' (w.heap.size + 1 + 1 + 1 + 1 + 1 + 1) k y → NumAt w' (w.heap.size + 1 + 1 + 1 + 1 + 1 + 1 + 1) false s' → K ⟨#[.int .i64 a, .int .i64 b, v2, v3, .pointer (some ⟨w.heap.size, 0, none⟩), .pointer (some ⟨w.heap.size + 1 + 1 + 1 + 1 + 1, 0, none⟩), .pointer (some ⟨w.heap.size + 1 + 1 + 1 + 1 + 1 + 1, 0, none⟩), .pointer (some ⟨w.heap.size + 1 + 1 + 1 + 1 + 1 + 1 + 1, 0, none⟩), .int .i64 4, u9, v10, v11, v12, v13, v14, u15, u16, u17, u18, u19, u20, u21, u22, u23, u24, u25, u26, u27, u28, u29, u30, u31, u32, u33, u34, u35, u36, u37, u38, u39, u40, u41, u42, u43, u44, v45, v46, v47, v48, v49, v50, v51, v52, v53, v54, v55, v56, v57], []⟩ w')) :
    Code.wp Try.prog ((Try.f17.body.bind firstLoop).getD .skip) (Exit.then K Q) ⟨#[.int .i64 a, .int .i64 b, v2, v3, .pointer (some ⟨w.heap.size, 0, none⟩), .pointer (some ⟨w.heap.size + 1 + 1 + 1 + 1 + 1, 0, none⟩), .pointer (some ⟨w.heap.size + 1 + 1 + 1 + 1 + 1 + 1, 0, none⟩), .pointer (some ⟨w.heap.size + 1 + 1 + 1 + 1 + 1 + 1 + 1, 0, none⟩), .int .i64 3, u9, v10, v11, v12, v13, v14, u15, u16, u17, u18, u19, u20, u21, u22, u23, u24, u25, u26, u27, u28, u29, u30, u31, u32, u33, u34, u35, u36, u37, u38, u39, u40, u41, u42, u43, u44, v45, v46, v47, v48, v49, v50, v51, v52, v53, v54, v55, v56, v57], []⟩ wr := by
  refine Code.wp_mono (then_np K Q) ?_
  conv => arg 2; whnf
  have l4 := N4.out.lt
  have l5 := N5.out.lt
  have l6 := N6.out.lt
  have l7 := N7.out.lt
  have p := dgt_bd x 3
  have q0 := dgt_bd y 0
  have r0 := prod16 _ _ p q0
  have q1 := dgt_bd y 1
  have r1 := prod16 _ _ p q1
  have q2 := dgt_bd y 2
  have r2 := prod16 _ _ p q2
  have q3 := dgt_bd y 3
  have r3 := prod16 _ _ p q3
  have Y := Lib.hid (row_mul (dgt x 3) _ _ _ _ y (low4x y hy.1 hy.2))
  have U := Lib.hid (sum_dgt s t.1 (by omega))
  clear p q0 q1 q2 q3 hy
  have x3 := N5.out.c.c4
  have y0 := N6.out.c.c1
  have y1 := N6.out.c.c2
  have y2 := N6.out.c.c3
  have y3 := N6.out.c.c4
  have o0 := N7.out.c.c1
  have o1 := N7.out.c.c2
  have o2 := N7.out.c.c3
  have o3 := N7.out.c.c4
  have o4 := N7.out.c.c5
  have o5 := N7.out.c.c6
  have o6 := N7.out.c.c7
  have o7 := N7.out.c.c8
  have o8 := N7.out.c.c9
  have o9 := N7.out.c.c10
  have f0 := N7.out.f 1
  have f1 := N7.out.f 2
  have f2 := N7.out.f 3
  have f3 := N7.out.f 4
  have f4 := N7.out.f 5
  have f5 := N7.out.f 6
  have f6 := N7.out.f 7
  have f7 := N7.out.f 8
  have f8 := N7.out.f 9
  have f9 := N7.out.f 10
  have v0' := dgt_bd s 0
  have v1' := dgt_bd s 1
  have v2' := dgt_bd s 2
  have v3' := dgt_bd s 3
  have v4' := dgt_bd s 4
  have v5' := dgt_bd s 5
  have v6' := dgt_bd s 6
  have v7' := dgt_bd s 7
  have v8' := dgt_bd s 8
  have v9' := dgt_bd s 9
  have a0 : IntKind.i64.wrap 3 = 3 := by decide
  have b0 : IntKind.u64.wrap (dgt x 3 * dgt y 0) = dgt x 3 * dgt y 0 := IntWalk.u64_in _ ⟨by omega, by omega⟩
  have g0 : IntKind.u64.wrap (dgt s 3 + dgt x 3 * dgt y 0) = dgt s 3 + dgt x 3 * dgt y 0 := IntWalk.u64_in _ ⟨by omega, by omega⟩
  have a1 : IntKind.i64.wrap 4 = 4 := by decide
  have b1 : IntKind.u64.wrap (dgt x 3 * dgt y 1) = dgt x 3 * dgt y 1 := IntWalk.u64_in _ ⟨by omega, by omega⟩
  have g1 : IntKind.u64.wrap (dgt s 4 + dgt x 3 * dgt y 1) = dgt s 4 + dgt x 3 * dgt y 1 := IntWalk.u64_in _ ⟨by omega, by omega⟩
  have a2 : IntKind.i64.wrap 5 = 5 := by decide
  have b2 : IntKind.u64.wrap (dgt x 3 * dgt y 2) = dgt x 3 * dgt y 2 := IntWalk.u64_in _ ⟨by omega, by omega⟩
  have g2 : IntKind.u64.wrap (dgt s 5 + dgt x 3 * dgt y 2) = dgt s 5 + dgt x 3 * dgt y 2 := IntWalk.u64_in _ ⟨by omega, by omega⟩
  have a3 : IntKind.i64.wrap 6 = 6 := by decide
  have b3 : IntKind.u64.wrap (dgt x 3 * dgt y 3) = dgt x 3 * dgt y 3 := IntWalk.u64_in _ ⟨by omega, by omega⟩
  have g3 : IntKind.u64.wrap (dgt s 6 + dgt x 3 * dgt y 3) = dgt s 6 + dgt x 3 * dgt y 3 := IntWalk.u64_in _ ⟨by omega, by omega⟩
  go_wp2
  refine wp_loop_rounds 5 ?_
  iterate 4 (rw [rounds_succ]; go_wp2; go_region; go_wp2)
  rw [rounds_succ]
  go_wp2_with fail
  refine (carry_x s' (dgt s 0) (dgt s 1) (dgt s 2) (dgt s 3 + dgt x 3 * dgt y 0) (dgt s 4 + dgt x 3 * dgt y 1) (dgt s 5 + dgt x 3 * dgt y 2) (dgt s 6 + dgt x 3 * dgt y 3) (dgt s 7) (dgt s 8) (dgt s 9) _ (by omega) (by omega) (by omega) (by omega) (by omega) (by omega) (by omega) (by omega) (by omega) (by omega) (by have := Y.out; have := S.out; have := U.out; omega) (by omega)).mono ?_
  rintro e w3 ⟨rfl, A0, B0, n0, rfl⟩
  go_wp2
  clear a0 b0 g0 r0 a1 b1 g1 r1 a2 b2 g2 r2 a3 b3 g3 r3 v0' v1' v2' v3' v4' v5' v6' v7' v8' v9'
  have hb := HB.out
  refine HK.out _ _ _ _ _ _ _ _ _ _ _ _ _ _ _ _ _ _ _ _ _ _ _ _ _ _ _ _ _ _ _ _ ?_ ?_ ?_ ?_ ?_
  · repeat' (first | (with_reducible exact hb) | (with_reducible refine below_drewN ?_ _) | (with_reducible refine Below.drew ?_) | (with_reducible refine Below.alloc ?_ ?_ _) | (with_reducible refine Below.setCell ?_ ?_ _) | (simp; done) | (simp; omega) | omega)
  · repeat' (with_reducible first | exact N4.out | refine NumAt.drewN ?_ _ | refine NumAt.alloc ?_ _ | refine NumAt.other ?_ _ (by omega))
  · repeat' (with_reducible first | exact N5.out | refine NumAt.drewN ?_ _ | refine NumAt.alloc ?_ _ | refine NumAt.other ?_ _ (by omega))
  · repeat' (with_reducible first | exact N6.out | refine NumAt.drewN ?_ _ | refine NumAt.alloc ?_ _ | refine NumAt.other ?_ _ (by omega))
  · exact (((Room.store ((((N7.out.room.set 4 _ (by omega)).set 5 _ (by omega)).set 6 _ (by omega)).set 7 _ (by omega)) s').alloc A0).alloc B0).drewN _
end Go.Proofs.Ytaebbfaheaghfaa
