/- The contracts of falseworkref01, tenth part: Divide, a round of the second loop (down_take). The contracts of falseworkref01, tenth part: Divide, a round of the second loop (down_skip). -/
import Derived.Test.YtaebbfaheaghfaaDivB

namespace Go.Proofs.Ytaebbfaheaghfaa
open Go.RowKit

set_option maxHeartbeats 80000000 in
set_option maxRecDepth 100000 in
theorem down_take (a C O q : Int) (s k b : Nat) (w wr : World) (v0 v1 v11 v12 v13 v14 v15 v16 v17 v18 v19 v20 v21 v22 v23 v24 v25 v26 v27 v58 v59 : Value) (u10 u28 u29 u30 u31 u32 u33 u34 u35 u36 u37 u38 u39 u40 u41 u42 u43 u44 u45 u46 u47 u48 u49 u50 u51 u52 u53 u54 u55 u56 u57 : Value) (K : Act → World → Prop) (Q : Exit → Act → World → Prop)
    (HB : Hid (Below w.heap.size w wr)) (N2 : Hid (DigAt wr (w.heap.size) a)) (N3 : Hid (DigAt wr (w.heap.size + 1) C)) (N4 : Hid (Room10 wr (w.heap.size + 1 + 1))) (N5 : Hid (Room10 wr (w.heap.size + 1 + 1 + 1))) (N6 : Hid (DigAt wr (w.heap.size + 1 + 1 + 1 + 1) O)) (N8 : Hid (DigAt wr b q))
    (hs : s < 130) (hk : k ≤ s) (hb5 : w.heap.size + 1 + 1 + 1 + 1 < b) (a0 : 0 ≤ a) (a1 : a < 1361129467683753853853498429727072845824) (d1 : 0 < C) (d2 : C < 1361129467683753853853498429727072845824) (d3 : 0 < O) (d4 : O ≤ C) (q0 : 0 ≤ q) (q1 : q < 1361129467683753853853498429727072845824) (h2 : C ≤ a)
    (HK : Hid (∀ (u10 u28 u29 u30 u31 u32 u33 u34 u35 u36 u37 u38 u39 u40 u41 u42 u43 u44 u45 u46 u47 u48 u49 u50 u51 u52 u53 u54 u55 u56 u57 : Value) (w' : World), Below w.heap.size w w' → DigAt w' (w.heap.size) (a - C) → DigAt w' (w.heap.size + 1) (C / 2) → Room10 w' (w.heap.size + 1 + 1) → Room10 w' (w.heap.size + 1 + 1 + 1) → DigAt w' (w.heap.size + 1 + 1 + 1 + 1) (O / 2) → DigAt w' b (q + O) → K ⟨List.toArray (v0 :: v1 :: .pointer (some ⟨w.heap.size, 0, none⟩) :: .pointer (some ⟨w.heap.size + 1, 0, none⟩) :: .pointer (some ⟨w.heap.size + 1 + 1, 0, none⟩) :: .pointer (some ⟨w.heap.size + 1 + 1 + 1, 0, none⟩) :: .pointer (some ⟨w.heap.size + 1 + 1 + 1 + 1, 0, none⟩) :: .int .i64 (s : Int) :: .pointer (some ⟨b, 0, none⟩) :: .int .i64 ((k + 1 : Nat) : Int) :: u10 :: v11 :: v12 :: v13 :: v14 :: v15 :: v16 :: v17 :: v18 :: v19 :: v20 :: v21 :: v22 :: v23 :: v24 :: v25 :: v26 :: v27 :: u28 :: u29 :: u30 :: u31 :: u32 :: u33 :: u34 :: u35 :: u36 :: u37 :: u38 :: u39 :: u40 :: u41 :: u42 :: u43 :: u44 :: u45 :: u46 :: u47 :: u48 :: u49 :: u50 :: u51 :: u52 :: u53 :: u54 :: u55 :: u56 :: u57 :: v58 :: v59 :: []), []⟩ w')) :
    Code.wp Try.prog ((Try.f48.body.map loopsOf).getD [] |>.getD 1 .skip) (Exit.then K Q) ⟨List.toArray (v0 :: v1 :: .pointer (some ⟨w.heap.size, 0, none⟩) :: .pointer (some ⟨w.heap.size + 1, 0, none⟩) :: .pointer (some ⟨w.heap.size + 1 + 1, 0, none⟩) :: .pointer (some ⟨w.heap.size + 1 + 1 + 1, 0, none⟩) :: .pointer (some ⟨w.heap.size + 1 + 1 + 1 + 1, 0, none⟩) :: .int .i64 (s : Int) :: .pointer (some ⟨b, 0, none⟩) :: .int .i64 (k : Int) :: u10 :: v11 :: v12 :: v13 :: v14 :: v15 :: v16 :: v17 :: v18 :: v19 :: v20 :: v21 :: v22 :: v23 :: v24 :: v25 :: v26 :: v27 :: u28 :: u29 :: u30 :: u31 :: u32 :: u33 :: u34 :: u35 :: u36 :: u37 :: u38 :: u39 :: u40 :: u41 :: u42 :: u43 :: u44 :: u45 :: u46 :: u47 :: u48 :: u49 :: u50 :: u51 :: u52 :: u53 :: u54 :: u55 :: u56 :: u57 :: v58 :: v59 :: []), []⟩ wr := by
  refine Code.wp_mono (then_np K Q) ?_
  conv => arg 2; whnf
  have l2 := N2.out.lt
  have l3 := N3.out.lt
  have l6 := N6.out.lt
  have l8 := N8.out.lt
  have HHC := fun w => Lib.hid (half_any C w (by omega) (by omega))
  have HHO := fun w => Lib.hid (half_any O w (by omega) (by omega))
  have hle := fun w => less_any C a w (by omega) (by omega) (by omega) (by omega)
  have HLE := fun w => Lib.hid (hle w)
  clear hle
  have HMI := fun w => Lib.hid (minus_any a C w (by omega) (by omega) (by omega))
  have hq := cmp_le h2
  have HSO := Lib.hid (sum_dgt O (by omega) (by omega))
  have HSQ := Lib.hid (sum_dgt q (by omega) (by omega))
  have HLT : Hid (q + O < 1461501637330902918203684832716283019655932542976) := by show q + O < 1461501637330902918203684832716283019655932542976; omega
  have hkd : decide ((k : Int) ≤ (s : Int)) = true := by simp only [decide_eq_true_eq]; omega
  clear h2 a0 a1 d1 d2 d3 d4 q0 q1
  have x0 := N2.out.c0
  have x1 := N2.out.c1
  have x2 := N2.out.c2
  have x3 := N2.out.c3
  have x4 := N2.out.c4
  have x5 := N2.out.c5
  have x6 := N2.out.c6
  have x7 := N2.out.c7
  have x8 := N2.out.c8
  have x9 := N2.out.c9
  have y0 := N3.out.c0
  have y1 := N3.out.c1
  have y2 := N3.out.c2
  have y3 := N3.out.c3
  have y4 := N3.out.c4
  have y5 := N3.out.c5
  have y6 := N3.out.c6
  have y7 := N3.out.c7
  have y8 := N3.out.c8
  have y9 := N3.out.c9
  have l2_1 : w.heap.size < wr.heap.size + 1 := by omega
  have l2_2 : w.heap.size < wr.heap.size + 1 + 1 := by omega
  have l2_3 : w.heap.size < wr.heap.size + 1 + 1 + 1 := by omega
  have l2_4 : w.heap.size < wr.heap.size + 1 + 1 + 1 + 1 := by omega
  have l3_1 : w.heap.size + 1 < wr.heap.size + 1 := by omega
  have l3_2 : w.heap.size + 1 < wr.heap.size + 1 + 1 := by omega
  have l3_3 : w.heap.size + 1 < wr.heap.size + 1 + 1 + 1 := by omega
  have l3_4 : w.heap.size + 1 < wr.heap.size + 1 + 1 + 1 + 1 := by omega
  go_wp2_with fail
  refine (HLE _).out.mono ?_
  rintro e w1 ⟨rfl, X1, Y1, n1, rfl⟩
  have f0 := N2.out.f 0
  have f1 := N2.out.f 1
  have f2 := N2.out.f 2
  have f3 := N2.out.f 3
  have f4 := N2.out.f 4
  have f5 := N2.out.f 5
  have f6 := N2.out.f 6
  have f7 := N2.out.f 7
  have f8 := N2.out.f 8
  have f9 := N2.out.f 9
  go_wp2_with fail
  refine (HMI _).out.mono ?_
  rintro e w2 ⟨rfl, X2, Y2, Z2, n2, rfl⟩
  go_wp2
  refine wp_gen (fun wx => Below w.heap.size w wx ∧ DigAt wx (w.heap.size) (a - C) ∧ DigAt wx (w.heap.size + 1) C ∧ Room10 wx (w.heap.size + 1 + 1) ∧ Room10 wx (w.heap.size + 1 + 1 + 1) ∧ DigAt wx (w.heap.size + 1 + 1 + 1 + 1) O ∧ DigAt wx b q) ?_ ?_
  · have hb := HB.out
    refine ⟨?_, ?_, ?_, ?_, ?_, ?_, ?_⟩
    · repeat' (first | (with_reducible exact hb) | (with_reducible exact Below.refl _ _) | (with_reducible refine below_drewN ?_ _) | (with_reducible refine Below.drew ?_) | (with_reducible refine Below.alloc ?_ ?_ _) | (with_reducible refine Below.setCell ?_ ?_ _) | (simp; done) | (simp; omega) | omega)
    · repeat' (with_reducible first | exact Room10.store N2.out.room _ | refine DigAt.drewN ?_ _ | refine DigAt.drew ?_ | refine DigAt.alloc ?_ _ | refine DigAt.other ?_ _ (by omega))
    · repeat' (with_reducible first | exact N3.out | refine DigAt.drewN ?_ _ | refine DigAt.drew ?_ | refine DigAt.alloc ?_ _ | refine DigAt.other ?_ _ (by omega))
    · repeat' (with_reducible first | exact N4.out | refine Room10.drewN ?_ _ | refine Room10.drew ?_ | refine Room10.alloc ?_ _ | refine Room10.other ?_ _)
    · repeat' (with_reducible first | exact N5.out | refine Room10.drewN ?_ _ | refine Room10.drew ?_ | refine Room10.alloc ?_ _ | refine Room10.other ?_ _)
    · repeat' (with_reducible first | exact N6.out | refine DigAt.drewN ?_ _ | refine DigAt.drew ?_ | refine DigAt.alloc ?_ _ | refine DigAt.other ?_ _ (by omega))
    · repeat' (with_reducible first | exact N8.out | refine DigAt.drewN ?_ _ | refine DigAt.drew ?_ | refine DigAt.alloc ?_ _ | refine DigAt.other ?_ _ (by omega))
  rintro wx ⟨hb, m2, m3, m4, m5, m6, m8⟩
  have M2 := Lib.hid m2
  have M3 := Lib.hid m3
  have M4 := Lib.hid m4
  have M5 := Lib.hid m5
  have M6 := Lib.hid m6
  have M8 := Lib.hid m8
  have HB2 := Lib.hid hb
  clear hb m2 m3 m4 m5 m6 m8 N2 N3 N4 N5 N6 N8 HB hq hkd HLE HMI l2 l3 l6 l8 x0 y0 f0 x1 y1 f1 x2 y2 f2 x3 y3 f3 x4 y4 f4 x5 y5 f5 x6 y6 f6 x7 y7 f7 x8 y8 f8 x9 y9 f9 l2_1 l3_1 l2_2 l3_2 l2_3 l3_3 l2_4 l3_4
  have l6 := M6.out.lt
  have l8 := M8.out.lt
  have hne : ¬ (w.heap.size + 1 + 1 + 1 + 1 = b) := by omega
  have hne' : ¬ (b = w.heap.size + 1 + 1 + 1 + 1) := by omega
  have z0 := M6.out.c0
  have z1 := M6.out.c1
  have z2 := M6.out.c2
  have z3 := M6.out.c3
  have z4 := M6.out.c4
  have z5 := M6.out.c5
  have z6 := M6.out.c6
  have z7 := M6.out.c7
  have z8 := M6.out.c8
  have z9 := M6.out.c9
  have o0 := M8.out.c0
  have o1 := M8.out.c1
  have o2 := M8.out.c2
  have o3 := M8.out.c3
  have o4 := M8.out.c4
  have o5 := M8.out.c5
  have o6 := M8.out.c6
  have o7 := M8.out.c7
  have o8 := M8.out.c8
  have o9 := M8.out.c9
  have f0 := M8.out.f 0
  have f1 := M8.out.f 1
  have f2 := M8.out.f 2
  have f3 := M8.out.f 3
  have f4 := M8.out.f 4
  have f5 := M8.out.f 5
  have f6 := M8.out.f 6
  have f7 := M8.out.f 7
  have f8 := M8.out.f 8
  have f9 := M8.out.f 9
  have p0 := dgt_bd q 0
  have r0 := dgt_bd O 0
  have p1 := dgt_bd q 1
  have r1 := dgt_bd O 1
  have p2 := dgt_bd q 2
  have r2 := dgt_bd O 2
  have p3 := dgt_bd q 3
  have r3 := dgt_bd O 3
  have p4 := dgt_bd q 4
  have r4 := dgt_bd O 4
  have p5 := dgt_bd q 5
  have r5 := dgt_bd O 5
  have p6 := dgt_bd q 6
  have r6 := dgt_bd O 6
  have p7 := dgt_bd q 7
  have r7 := dgt_bd O 7
  have p8 := dgt_bd q 8
  have r8 := dgt_bd O 8
  have p9 := dgt_bd q 9
  have r9 := dgt_bd O 9
  refine wp_loop_rounds 11 ?_
  iterate 10 (rw [rounds_succ]; go_wp2; go_region; go_wp2)
  rw [rounds_succ]
  go_wp2_with fail
  refine (carry_x (q + O) (dgt q 0 + dgt O 0) (dgt q 1 + dgt O 1) (dgt q 2 + dgt O 2) (dgt q 3 + dgt O 3) (dgt q 4 + dgt O 4) (dgt q 5 + dgt O 5) (dgt q 6 + dgt O 6) (dgt q 7 + dgt O 7) (dgt q 8 + dgt O 8) (dgt q 9 + dgt O 9) _ (by omega) (by omega) (by omega) (by omega) (by omega) (by omega) (by omega) (by omega) (by omega) (by omega) (by have := HSO.out; have := HSQ.out; omega) HLT.out).mono ?_
  rintro e w3 ⟨rfl, X3, Y3, n3, rfl⟩
  clear p0 r0 p1 r1 p2 r2 p3 r3 p4 r4 p5 r5 p6 r6 p7 r7 p8 r8 p9 r9
  go_upto_region 19 with (fail)
  refine wp_gen (fun wx => Below w.heap.size w wx ∧ DigAt wx (w.heap.size) (a - C) ∧ DigAt wx (w.heap.size + 1) C ∧ Room10 wx (w.heap.size + 1 + 1) ∧ Room10 wx (w.heap.size + 1 + 1 + 1) ∧ DigAt wx (w.heap.size + 1 + 1 + 1 + 1) O ∧ DigAt wx b (q + O)) ?_ ?_
  · have hb := HB2.out
    refine ⟨?_, ?_, ?_, ?_, ?_, ?_, ?_⟩
    · repeat' (first | (with_reducible exact hb) | (with_reducible exact Below.refl _ _) | (with_reducible refine below_drewN ?_ _) | (with_reducible refine Below.drew ?_) | (with_reducible refine Below.alloc ?_ ?_ _) | (with_reducible refine Below.setCell ?_ ?_ _) | (simp; done) | (simp; omega) | omega)
    · repeat' (with_reducible first | exact M2.out | refine DigAt.drewN ?_ _ | refine DigAt.drew ?_ | refine DigAt.alloc ?_ _ | refine DigAt.other ?_ _ (by omega))
    · repeat' (with_reducible first | exact M3.out | refine DigAt.drewN ?_ _ | refine DigAt.drew ?_ | refine DigAt.alloc ?_ _ | refine DigAt.other ?_ _ (by omega))
    · repeat' (with_reducible first | exact M4.out | refine Room10.drewN ?_ _ | refine Room10.drew ?_ | refine Room10.alloc ?_ _ | refine Room10.other ?_ _)
    · repeat' (with_reducible first | exact M5.out | refine Room10.drewN ?_ _ | refine Room10.drew ?_ | refine Room10.alloc ?_ _ | refine Room10.other ?_ _)
    · repeat' (with_reducible first | exact M6.out | refine DigAt.drewN ?_ _ | refine DigAt.drew ?_ | refine DigAt.alloc ?_ _ | refine DigAt.other ?_ _ (by omega))
    · repeat' (with_reducible first | exact Room10.store (Room10.set (Room10.set (Room10.set (Room10.set (Room10.set (Room10.set (Room10.set (Room10.set (Room10.set (Room10.set M8.out.room 0 _) 1 _) 2 _) 3 _) 4 _) 5 _) 6 _) 7 _) 8 _) 9 _) _ | refine DigAt.drewN ?_ _ | refine DigAt.drew ?_ | refine DigAt.alloc ?_ _ | refine DigAt.other ?_ _ (by omega))
  clear z0 o0 f0 z1 o1 f1 z2 o2 f2 z3 o3 f3 z4 o4 f4 z5 o5 f5 z6 o6 f6 z7 o7 f7 z8 o8 f8 z9 o9 f9 l6 l8 hne hne' M2 M3 M4 M5 M6 M8 HB2 HSO HSQ HLT
  rintro wy ⟨hb, m2, m3, m4, m5, m6, m8⟩
  have M2 := Lib.hid m2
  have M3 := Lib.hid m3
  have M4 := Lib.hid m4
  have M5 := Lib.hid m5
  have M6 := Lib.hid m6
  have M8 := Lib.hid m8
  have HB2 := Lib.hid hb
  clear hb m2 m3 m4 m5 m6 m8
  have l3 := M3.out.lt
  have l6 := M6.out.lt
  have l3_1 : w.heap.size + 1 < wy.heap.size + 1 := by omega
  have l3_2 : w.heap.size + 1 < wy.heap.size + 1 + 1 := by omega
  have l3_3 : w.heap.size + 1 < wy.heap.size + 1 + 1 + 1 := by omega
  have l3_4 : w.heap.size + 1 < wy.heap.size + 1 + 1 + 1 + 1 := by omega
  have l6_1 : w.heap.size + 1 + 1 + 1 + 1 < wy.heap.size + 1 := by omega
  have l6_2 : w.heap.size + 1 + 1 + 1 + 1 < wy.heap.size + 1 + 1 := by omega
  have l6_3 : w.heap.size + 1 + 1 + 1 + 1 < wy.heap.size + 1 + 1 + 1 := by omega
  have l6_4 : w.heap.size + 1 + 1 + 1 + 1 < wy.heap.size + 1 + 1 + 1 + 1 := by omega
  have y0 := M3.out.c0
  have y1 := M3.out.c1
  have y2 := M3.out.c2
  have y3 := M3.out.c3
  have y4 := M3.out.c4
  have y5 := M3.out.c5
  have y6 := M3.out.c6
  have y7 := M3.out.c7
  have y8 := M3.out.c8
  have y9 := M3.out.c9
  have f0 := M3.out.f 0
  have f1 := M3.out.f 1
  have f2 := M3.out.f 2
  have f3 := M3.out.f 3
  have f4 := M3.out.f 4
  have f5 := M3.out.f 5
  have f6 := M3.out.f 6
  have f7 := M3.out.f 7
  have f8 := M3.out.f 8
  have f9 := M3.out.f 9
  have z0 := M6.out.c0
  have z1 := M6.out.c1
  have z2 := M6.out.c2
  have z3 := M6.out.c3
  have z4 := M6.out.c4
  have z5 := M6.out.c5
  have z6 := M6.out.c6
  have z7 := M6.out.c7
  have z8 := M6.out.c8
  have z9 := M6.out.c9
  have e0 := M6.out.f 0
  have e1 := M6.out.f 1
  have e2 := M6.out.f 2
  have e3 := M6.out.f 3
  have e4 := M6.out.f 4
  have e5 := M6.out.f 5
  have e6 := M6.out.f 6
  have e7 := M6.out.f 7
  have e8 := M6.out.f 8
  have e9 := M6.out.f 9
  go_wp2_with fail
  refine (HHC _).out.mono ?_
  rintro e w4 ⟨rfl, X4, Y4, rfl⟩
  go_wp2_with fail
  refine (HHO _).out.mono ?_
  rintro e w5 ⟨rfl, X5, Y5, rfl⟩
  go_wp2
  have hb := HB2.out
  refine HK.out _ _ _ _ _ _ _ _ _ _ _ _ _ _ _ _ _ _ _ _ _ _ _ _ _ _ _ _ _ _ _ _ ?_ ?_ ?_ ?_ ?_ ?_ ?_
  · repeat' (first | (with_reducible exact hb) | (with_reducible exact Below.refl _ _) | (with_reducible refine below_drewN ?_ _) | (with_reducible refine Below.drew ?_) | (with_reducible refine Below.alloc ?_ ?_ _) | (with_reducible refine Below.setCell ?_ ?_ _) | (simp; done) | (simp; omega) | omega)
  · repeat' (with_reducible first | exact M2.out | refine DigAt.drewN ?_ _ | refine DigAt.drew ?_ | refine DigAt.alloc ?_ _ | refine DigAt.other ?_ _ (by omega))
  · repeat' (with_reducible first | exact Room10.store M3.out.room _ | refine DigAt.drewN ?_ _ | refine DigAt.drew ?_ | refine DigAt.alloc ?_ _ | refine DigAt.other ?_ _ (by omega))
  · repeat' (with_reducible first | exact M4.out | refine Room10.drewN ?_ _ | refine Room10.drew ?_ | refine Room10.alloc ?_ _ | refine Room10.other ?_ _)
  · repeat' (with_reducible first | exact M5.out | refine Room10.drewN ?_ _ | refine Room10.drew ?_ | refine Room10.alloc ?_ _ | refine Room10.other ?_ _)
  · repeat' (with_reducible first | exact Room10.store (Room10.other (Room10.other (Room10.other (Room10.other (Room10.other (Room10.other (Room10.other (Room10.other (Room10.other (Room10.other M6.out.room _) _) _) _) _) _) _) _) _) _) _ | refine DigAt.drewN ?_ _ | refine DigAt.drew ?_ | refine DigAt.alloc ?_ _ | refine DigAt.other ?_ _ (by omega))
  · repeat' (with_reducible first | exact M8.out | refine DigAt.drewN ?_ _ | refine DigAt.drew ?_ | refine DigAt.alloc ?_ _ | refine DigAt.other ?_ _ (by omega))
end Go.Proofs.Ytaebbfaheaghfaa

namespace Go.Proofs.Ytaebbfaheaghfaa
open Go.RowKit

set_option maxHeartbeats 80000000 in
set_option maxRecDepth 100000 in
theorem down_skip (a C O q : Int) (s k b : Nat) (w wr : World) (v0 v1 v11 v12 v13 v14 v15 v16 v17 v18 v19 v20 v21 v22 v23 v24 v25 v26 v27 v58 v59 : Value) (u10 u28 u29 u30 u31 u32 u33 u34 u35 u36 u37 u38 u39 u40 u41 u42 u43 u44 u45 u46 u47 u48 u49 u50 u51 u52 u53 u54 u55 u56 u57 : Value) (K : Act → World → Prop) (Q : Exit → Act → World → Prop)
    (HB : Hid (Below w.heap.size w wr)) (N2 : Hid (DigAt wr (w.heap.size) a)) (N3 : Hid (DigAt wr (w.heap.size + 1) C)) (N4 : Hid (Room10 wr (w.heap.size + 1 + 1))) (N5 : Hid (Room10 wr (w.heap.size + 1 + 1 + 1))) (N6 : Hid (DigAt wr (w.heap.size + 1 + 1 + 1 + 1) O)) (N8 : Hid (DigAt wr b q))
    (hs : s < 130) (hk : k ≤ s) (hb5 : w.heap.size + 1 + 1 + 1 + 1 < b) (a0 : 0 ≤ a) (a1 : a < 1361129467683753853853498429727072845824) (d1 : 0 < C) (d2 : C < 1361129467683753853853498429727072845824) (d3 : 0 < O) (d4 : O ≤ C) (h2 : a < C)
    (HK : Hid (∀ (u10 u28 u29 u30 u31 u32 u33 u34 u35 u36 u37 u38 u39 u40 u41 u42 u43 u44 u45 u46 u47 u48 u49 u50 u51 u52 u53 u54 u55 u56 u57 : Value) (w' : World), Below w.heap.size w w' → DigAt w' (w.heap.size) (a) → DigAt w' (w.heap.size + 1) (C / 2) → Room10 w' (w.heap.size + 1 + 1) → Room10 w' (w.heap.size + 1 + 1 + 1) → DigAt w' (w.heap.size + 1 + 1 + 1 + 1) (O / 2) → DigAt w' b (q) → K ⟨List.toArray (v0 :: v1 :: .pointer (some ⟨w.heap.size, 0, none⟩) :: .pointer (some ⟨w.heap.size + 1, 0, none⟩) :: .pointer (some ⟨w.heap.size + 1 + 1, 0, none⟩) :: .pointer (some ⟨w.heap.size + 1 + 1 + 1, 0, none⟩) :: .pointer (some ⟨w.heap.size + 1 + 1 + 1 + 1, 0, none⟩) :: .int .i64 (s : Int) :: .pointer (some ⟨b, 0, none⟩) :: .int .i64 ((k + 1 : Nat) : Int) :: u10 :: v11 :: v12 :: v13 :: v14 :: v15 :: v16 :: v17 :: v18 :: v19 :: v20 :: v21 :: v22 :: v23 :: v24 :: v25 :: v26 :: v27 :: u28 :: u29 :: u30 :: u31 :: u32 :: u33 :: u34 :: u35 :: u36 :: u37 :: u38 :: u39 :: u40 :: u41 :: u42 :: u43 :: u44 :: u45 :: u46 :: u47 :: u48 :: u49 :: u50 :: u51 :: u52 :: u53 :: u54 :: u55 :: u56 :: u57 :: v58 :: v59 :: []), []⟩ w')) :
    Code.wp Try.prog ((Try.f48.body.map loopsOf).getD [] |>.getD 1 .skip) (Exit.then K Q) ⟨List.toArray (v0 :: v1 :: .pointer (some ⟨w.heap.size, 0, none⟩) :: .pointer (some ⟨w.heap.size + 1, 0, none⟩) :: .pointer (some ⟨w.heap.size + 1 + 1, 0, none⟩) :: .pointer (some ⟨w.heap.size + 1 + 1 + 1, 0, none⟩) :: .pointer (some ⟨w.heap.size + 1 + 1 + 1 + 1, 0, none⟩) :: .int .i64 (s : Int) :: .pointer (some ⟨b, 0, none⟩) :: .int .i64 (k : Int) :: u10 :: v11 :: v12 :: v13 :: v14 :: v15 :: v16 :: v17 :: v18 :: v19 :: v20 :: v21 :: v22 :: v23 :: v24 :: v25 :: v26 :: v27 :: u28 :: u29 :: u30 :: u31 :: u32 :: u33 :: u34 :: u35 :: u36 :: u37 :: u38 :: u39 :: u40 :: u41 :: u42 :: u43 :: u44 :: u45 :: u46 :: u47 :: u48 :: u49 :: u50 :: u51 :: u52 :: u53 :: u54 :: u55 :: u56 :: u57 :: v58 :: v59 :: []), []⟩ wr := by
  refine Code.wp_mono (then_np K Q) ?_
  conv => arg 2; whnf
  have l2 := N2.out.lt
  have l3 := N3.out.lt
  have l6 := N6.out.lt
  have l8 := N8.out.lt
  have HHC := fun w => Lib.hid (half_any C w (by omega) (by omega))
  have HHO := fun w => Lib.hid (half_any O w (by omega) (by omega))
  have hle := fun w => less_any C a w (by omega) (by omega) (by omega) (by omega)
  rw [cmp_one h2] at hle
  have HLE := fun w => Lib.hid (hle w)
  clear hle
  have hkd : decide ((k : Int) ≤ (s : Int)) = true := by simp only [decide_eq_true_eq]; omega
  clear h2 a0 a1 d1 d2 d3 d4
  have x0 := N2.out.c0
  have x1 := N2.out.c1
  have x2 := N2.out.c2
  have x3 := N2.out.c3
  have x4 := N2.out.c4
  have x5 := N2.out.c5
  have x6 := N2.out.c6
  have x7 := N2.out.c7
  have x8 := N2.out.c8
  have x9 := N2.out.c9
  have y0 := N3.out.c0
  have y1 := N3.out.c1
  have y2 := N3.out.c2
  have y3 := N3.out.c3
  have y4 := N3.out.c4
  have y5 := N3.out.c5
  have y6 := N3.out.c6
  have y7 := N3.out.c7
  have y8 := N3.out.c8
  have y9 := N3.out.c9
  have l2_1 : w.heap.size < wr.heap.size + 1 := by omega
  have l2_2 : w.heap.size < wr.heap.size + 1 + 1 := by omega
  have l2_3 : w.heap.size < wr.heap.size + 1 + 1 + 1 := by omega
  have l2_4 : w.heap.size < wr.heap.size + 1 + 1 + 1 + 1 := by omega
  have l3_1 : w.heap.size + 1 < wr.heap.size + 1 := by omega
  have l3_2 : w.heap.size + 1 < wr.heap.size + 1 + 1 := by omega
  have l3_3 : w.heap.size + 1 < wr.heap.size + 1 + 1 + 1 := by omega
  have l3_4 : w.heap.size + 1 < wr.heap.size + 1 + 1 + 1 + 1 := by omega
  go_wp2_with fail
  refine (HLE _).out.mono ?_
  rintro e w1 ⟨rfl, X1, Y1, n1, rfl⟩
  go_upto_region 19 with (fail)
  refine wp_gen (fun wx => Below w.heap.size w wx ∧ DigAt wx (w.heap.size) a ∧ DigAt wx (w.heap.size + 1) C ∧ Room10 wx (w.heap.size + 1 + 1) ∧ Room10 wx (w.heap.size + 1 + 1 + 1) ∧ DigAt wx (w.heap.size + 1 + 1 + 1 + 1) O ∧ DigAt wx b q) ?_ ?_
  · have hb := HB.out
    refine ⟨?_, ?_, ?_, ?_, ?_, ?_, ?_⟩
    · repeat' (first | (with_reducible exact hb) | (with_reducible exact Below.refl _ _) | (with_reducible refine below_drewN ?_ _) | (with_reducible refine Below.drew ?_) | (with_reducible refine Below.alloc ?_ ?_ _) | (with_reducible refine Below.setCell ?_ ?_ _) | (simp; done) | (simp; omega) | omega)
    · repeat' (with_reducible first | exact N2.out | refine DigAt.drewN ?_ _ | refine DigAt.drew ?_ | refine DigAt.alloc ?_ _ | refine DigAt.other ?_ _ (by omega))
    · repeat' (with_reducible first | exact N3.out | refine DigAt.drewN ?_ _ | refine DigAt.drew ?_ | refine DigAt.alloc ?_ _ | refine DigAt.other ?_ _ (by omega))
    · repeat' (with_reducible first | exact N4.out | refine Room10.drewN ?_ _ | refine Room10.drew ?_ | refine Room10.alloc ?_ _ | refine Room10.other ?_ _)
    · repeat' (with_reducible first | exact N5.out | refine Room10.drewN ?_ _ | refine Room10.drew ?_ | refine Room10.alloc ?_ _ | refine Room10.other ?_ _)
    · repeat' (with_reducible first | exact N6.out | refine DigAt.drewN ?_ _ | refine DigAt.drew ?_ | refine DigAt.alloc ?_ _ | refine DigAt.other ?_ _ (by omega))
    · repeat' (with_reducible first | exact N8.out | refine DigAt.drewN ?_ _ | refine DigAt.drew ?_ | refine DigAt.alloc ?_ _ | refine DigAt.other ?_ _ (by omega))
  rintro wy ⟨hb, m2, m3, m4, m5, m6, m8⟩
  have M2 := Lib.hid m2
  have M3 := Lib.hid m3
  have M4 := Lib.hid m4
  have M5 := Lib.hid m5
  have M6 := Lib.hid m6
  have M8 := Lib.hid m8
  have HB2 := Lib.hid hb
  clear hb m2 m3 m4 m5 m6 m8 N2 N3 N4 N5 N6 N8 HB hkd HLE l2 l3 l6 l8 x0 y0 x1 y1 x2 y2 x3 y3 x4 y4 x5 y5 x6 y6 x7 y7 x8 y8 x9 y9 l2_1 l3_1 l2_2 l3_2 l2_3 l3_3 l2_4 l3_4
  have l3 := M3.out.lt
  have l6 := M6.out.lt
  have l3_1 : w.heap.size + 1 < wy.heap.size + 1 := by omega
  have l3_2 : w.heap.size + 1 < wy.heap.size + 1 + 1 := by omega
  have l3_3 : w.heap.size + 1 < wy.heap.size + 1 + 1 + 1 := by omega
  have l3_4 : w.heap.size + 1 < wy.heap.size + 1 + 1 + 1 + 1 := by omega
  have l6_1 : w.heap.size + 1 + 1 + 1 + 1 < wy.heap.size + 1 := by omega
  have l6_2 : w.heap.size + 1 + 1 + 1 + 1 < wy.heap.size + 1 + 1 := by omega
  have l6_3 : w.heap.size + 1 + 1 + 1 + 1 < wy.heap.size + 1 + 1 + 1 := by omega
  have l6_4 : w.heap.size + 1 + 1 + 1 + 1 < wy.heap.size + 1 + 1 + 1 + 1 := by omega
  have y0 := M3.out.c0
  have y1 := M3.out.c1
  have y2 := M3.out.c2
  have y3 := M3.out.c3
  have y4 := M3.out.c4
  have y5 := M3.out.c5
  have y6 := M3.out.c6
  have y7 := M3.out.c7
  have y8 := M3.out.c8
  have y9 := M3.out.c9
  have f0 := M3.out.f 0
  have f1 := M3.out.f 1
  have f2 := M3.out.f 2
  have f3 := M3.out.f 3
  have f4 := M3.out.f 4
  have f5 := M3.out.f 5
  have f6 := M3.out.f 6
  have f7 := M3.out.f 7
  have f8 := M3.out.f 8
  have f9 := M3.out.f 9
  have z0 := M6.out.c0
  have z1 := M6.out.c1
  have z2 := M6.out.c2
  have z3 := M6.out.c3
  have z4 := M6.out.c4
  have z5 := M6.out.c5
  have z6 := M6.out.c6
  have z7 := M6.out.c7
  have z8 := M6.out.c8
  have z9 := M6.out.c9
  have e0 := M6.out.f 0
  have e1 := M6.out.f 1
  have e2 := M6.out.f 2
  have e3 := M6.out.f 3
  have e4 := M6.out.f 4
  have e5 := M6.out.f 5
  have e6 := M6.out.f 6
  have e7 := M6.out.f 7
  have e8 := M6.out.f 8
  have e9 := M6.out.f 9
  go_wp2_with fail
  refine (HHC _).out.mono ?_
  rintro e w4 ⟨rfl, X4, Y4, rfl⟩
  go_wp2_with fail
  refine (HHO _).out.mono ?_
  rintro e w5 ⟨rfl, X5, Y5, rfl⟩
  go_wp2
  have hb := HB2.out
  refine HK.out _ _ _ _ _ _ _ _ _ _ _ _ _ _ _ _ _ _ _ _ _ _ _ _ _ _ _ _ _ _ _ _ ?_ ?_ ?_ ?_ ?_ ?_ ?_
  · repeat' (first | (with_reducible exact hb) | (with_reducible exact Below.refl _ _) | (with_reducible refine below_drewN ?_ _) | (with_reducible refine Below.drew ?_) | (with_reducible refine Below.alloc ?_ ?_ _) | (with_reducible refine Below.setCell ?_ ?_ _) | (simp; done) | (simp; omega) | omega)
  · repeat' (with_reducible first | exact M2.out | refine DigAt.drewN ?_ _ | refine DigAt.drew ?_ | refine DigAt.alloc ?_ _ | refine DigAt.other ?_ _ (by omega))
  · repeat' (with_reducible first | exact Room10.store M3.out.room _ | refine DigAt.drewN ?_ _ | refine DigAt.drew ?_ | refine DigAt.alloc ?_ _ | refine DigAt.other ?_ _ (by omega))
  · repeat' (with_reducible first | exact M4.out | refine Room10.drewN ?_ _ | refine Room10.drew ?_ | refine Room10.alloc ?_ _ | refine Room10.other ?_ _)
  · repeat' (with_reducible first | exact M5.out | refine Room10.drewN ?_ _ | refine Room10.drew ?_ | refine Room10.alloc ?_ _ | refine Room10.other ?_ _)
  · repeat' (with_reducible first | exact Room10.store (Room10.other (Room10.other (Room10.other (Room10.other (Room10.other (Room10.other (Room10.other (Room10.other (Room10.other (Room10.other M6.out.room _) _) _) _) _) _) _) _) _) _) _ | refine DigAt.drewN ?_ _ | refine DigAt.drew ?_ | refine DigAt.alloc ?_ _ | refine DigAt.other ?_ _ (by omega))
  · repeat' (with_reducible first | exact M8.out | refine DigAt.drewN ?_ _ | refine DigAt.drew ?_ | refine DigAt.alloc ?_ _ | refine DigAt.other ?_ _ (by omega))
end Go.Proofs.Ytaebbfaheaghfaa
