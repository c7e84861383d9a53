/- The contracts of falseworkref01, tenth part: Divide, a round of the second loop (down_skip). -/
import Derived.Test.YtejbblpgdlanoaaDivA
namespace Go.Proofs.Ytejbblpgdlanoaa
open Go.RowKit

set_option maxHeartbeats 80000000 in
set_option maxRecDepth 100000 in
theorem down_skip (a C O q : Int) (s k b : Nat) (w wr : World) (v0 v1 v11 v12 v13 v14 v15 v16 v17 v18 v19 v20 v21 v22 v23 v24 v25 v26 v27 v58 v59 : Value) (u10 u28 u29 u30 u31 u32 u33 u34 u35 u36 u37 u38 u39 u40 u41 u42 u43 u44 u45 u46 u47 u48 u49 u50 u51 u52 u53 u54 u55 u56 u57 : Value) (K : Act → World → Prop) (Q : Exit → Act → World → Prop)
    (HB : Hid (Below w.heap.size w wr)) (N2 : Hid (DigAt wr (w.heap.size) a)) (N3 : Hid (DigAt wr (w.heap.size + 1) C)) (N4 : Hid (Room10 wr (w.heap.size + 1 + 1))) (N5 : Hid (Room10 wr (w.heap.size + 1 + 1 + 1))) (N6 : Hid (DigAt wr (w.heap.size + 1 + 1 + 1 + 1) O)) (N8 : Hid (DigAt wr b q))
    (hs : s < 130) (hk : k ≤ s) (hb5 : w.heap.size + 1 + 1 + 1 + 1 < b) (a0 : 0 ≤ a) (a1 : a < 1361129467683753853853498429727072845824) (d1 : 0 < C) (d2 : C < 1361129467683753853853498429727072845824) (d3 : 0 < O) (d4 : O ≤ C) (h2 : a < C)
    (HK : Hid (∀ (u10 u28 u29 u30 u31 u32 u33 u34 u35 u36 u37 u38 u39 u40 u41 u42 u43 u44 u45 u46 u47 u48 u49 u50 u51 u52 u53 u54 u55 u56 u57 : Value) (w' : World), Below w.heap.size w w' → DigAt w' (w.heap.size) (a) → DigAt w' (w.heap.size + 1) (C / 2) → Room10 w' (w.heap.size + 1 + 1) → Room10 w' (w.heap.size + 1 + 1 + 1) → DigAt w' (w.heap.size + 1 + 1 + 1 + 1) (O / 2) → DigAt w' b (q) → K ⟨List.toArray (v0 :: v1 :: .pointer (some ⟨w.heap.size, 0, none⟩) :: .pointer (some ⟨w.heap.size + 1, 0, none⟩) :: .pointer (some ⟨w.heap.size + 1 + 1, 0, none⟩) :: .pointer (some ⟨w.heap.size + 1 + 1 + 1, 0, none⟩) :: .pointer (some ⟨w.heap.size + 1 + 1 + 1 + 1, 0, none⟩) :: .int .i64 (s : Int) :: .pointer (some ⟨b, 0, none⟩) :: .int .i64 ((k + 1 : Nat) : Int) :: u10 :: v11 :: v12 :: v13 :: v14 :: v15 :: v16 :: v17 :: v18 :: v19 :: v20 :: v21 :: v22 :: v23 :: v24 :: v25 :: v26 :: v27 :: u28 :: u29 :: u30 :: u31 :: u32 :: u33 :: u34 :: u35 :: u36 :: u37 :: u38 :: u39 :: u40 :: u41 :: u42 :: u43 :: u44 :: u45 :: u46 :: u47 :: u48 :: u49 :: u50 :: u51 :: u52 :: u53 :: u54 :: u55 :: u56 :: u57 :: v58 :: v59 :: []), []⟩ w')) :
    Code.wp Try.prog ((Try.f54.body.map loopsOf).getD [] |>.getD 1 .skip) (Exit.then K Q) ⟨List.toArray (v0 :: v1 :: .pointer (some ⟨w.heap.size, 0, none⟩) :: .pointer (some ⟨w.heap.size + 1, 0, none⟩) :: .pointer (some ⟨w.heap.size + 1 + 1, 0, none⟩) :: .pointer (some ⟨w.heap.size + 1 + 1 + 1, 0, none⟩) :: .pointer (some ⟨w.heap.size + 1 + 1 + 1 + 1, 0, none⟩) :: .int .i64 (s : Int) :: .pointer (some ⟨b, 0, none⟩) :: .int .i64 (k : Int) :: u10 :: v11 :: v12 :: v13 :: v14 :: v15 :: v16 :: v17 :: v18 :: v19 :: v20 :: v21 :: v22 :: v23 :: v24 :: v25 :: v26 :: v27 :: u28 :: u29 :: u30 :: u31 :: u32 :: u33 :: u34 :: u35 :: u36 :: u37 :: u38 :: u39 :: u40 :: u41 :: u42 :: u43 :: u44 :: u45 :: u46 :: u47 :: u48 :: u49 :: u50 :: u51 :: u52 :: u53 :: u54 :: u55 :: u56 :: u57 :: v58 :: v59 :: []), []⟩ wr := by
  refine Code.wp_mono (then_np K Q) ?_
  conv => arg 2; whnf
  have l2 := N2.out.lt
  have l3 := N3.out.lt
  have l6 := N6.out.lt
  have l8 := N8.out.lt
  have HHC := fun w => Lib.hid (half_any C w (by omega) (by omega))
  have HHO := fun w => Lib.hid (half_any O w (by omega) (by omega))
  have hle := fun w => less_any C a w (by omega) (by omega) (by omega) (by omega)
  rw [cmp_one h2] at hle
  have HLE := fun w => Lib.hid (hle w)
  clear hle
  have hkd : decide ((k : Int) ≤ (s : Int)) = true := by simp only [decide_eq_true_eq]; omega
  clear h2 a0 a1 d1 d2 d3 d4
  have x0 := N2.out.c0
  have x1 := N2.out.c1
  have x2 := N2.out.c2
  have x3 := N2.out.c3
  have x4 := N2.out.c4
  have x5 := N2.out.c5
  have x6 := N2.out.c6
  have x7 := N2.out.c7
  have x8 := N2.out.c8
  have x9 := N2.out.c9
  have y0 := N3.out.c0
  have y1 := N3.out.c1
  have y2 := N3.out.c2
  have y3 := N3.out.c3
  have y4 := N3.out.c4
  have y5 := N3.out.c5
  have y6 := N3.out.c6
  have y7 := N3.out.c7
  have y8 := N3.out.c8
  have y9 := N3.out.c9
  have l2_1 : w.heap.size < wr.heap.size + 1 := by omega
  have l2_2 : w.heap.size < wr.heap.size + 1 + 1 := by omega
  have l2_3 : w.heap.size < wr.heap.size + 1 + 1 + 1 := by omega
  have l2_4 : w.heap.size < wr.heap.size + 1 + 1 + 1 + 1 := by omega
  have l3_1 : w.heap.size + 1 < wr.heap.size + 1 := by omega
  have l3_2 : w.heap.size + 1 < wr.heap.size + 1 + 1 := by omega
  have l3_3 : w.heap.size + 1 < wr.heap.size + 1 + 1 + 1 := by omega
  have l3_4 : w.heap.size + 1 < wr.heap.size + 1 + 1 + 1 + 1 := by omega
  go_wp2_with fail
  refine (HLE _).out.mono ?_
  rintro e w1 ⟨rfl, X1, Y1, n1, rfl⟩
  go_upto_region 19 with (fail)
  refine wp_gen (fun wx => Below w.heap.size w wx ∧ DigAt wx (w.heap.size) a ∧ DigAt wx (w.heap.size + 1) C ∧ Room10 wx (w.heap.size + 1 + 1) ∧ Room10 wx (w.heap.size + 1 + 1 + 1) ∧ DigAt wx (w.heap.size + 1 + 1 + 1 + 1) O ∧ DigAt wx b q) ?_ ?_
  · have hb := HB.out
    refine ⟨?_, ?_, ?_, ?_, ?_, ?_, ?_⟩
    · repeat' (first | (with_reducible exact hb) | (with_reducible exact Below.refl _ _) | (with_reducible refine below_drewN ?_ _) | (with_reducible refine Below.drew ?_) | (with_reducible refine Below.alloc ?_ ?_ _) | (with_reducible refine Below.setCell ?_ ?_ _) | (simp; done) | (simp; omega) | omega)
    · repeat' (with_reducible first | exact N2.out | refine DigAt.drewN ?_ _ | refine DigAt.drew ?_ | refine DigAt.alloc ?_ _ | refine DigAt.other ?_ _ (by omega))
    · repeat' (with_reducible first | exact N3.out | refine DigAt.drewN ?_ _ | refine DigAt.drew ?_ | refine DigAt.alloc ?_ _ | refine DigAt.other ?_ _ (by omega))
    · repeat' (with_reducible first | exact N4.out | refine Room10.drewN ?_ _ | refine Room10.drew ?_ | refine Room10.alloc ?_ _ | refine Room10.other ?_ _)
    · repeat' (with_reducible first | exact N5.out | refine Room10.drewN ?_ _ | refine Room10.drew ?_ | refine Room10.alloc ?_ _ | refine Room10.other ?_ _)
    · repeat' (with_reducible first | exact N6.out | refine DigAt.drewN ?_ _ | refine DigAt.drew ?_ | refine DigAt.alloc ?_ _ | refine DigAt.other ?_ _ (by omega))
    · repeat' (with_reducible first | exact N8.out | refine DigAt.drewN ?_ _ | refine DigAt.drew ?_ | refine DigAt.alloc ?_ _ | refine DigAt.other ?_ _ (by omega))
  rintro wy ⟨hb, m2, m3, m4, m5, m6, m8⟩
  have M2 := Lib.hid m2
  have M3 := Lib.hid m3
  have M4 := Lib.hid m4
  have M5 := Lib.hid m5
  have M6 := Lib.hid m6
  have M8 := Lib.hid m8
  have HB2 := Lib.hid hb
  clear hb m2 m3 m4 m5 m6 m8 N2 N3 N4 N5 N6 N8 HB hkd HLE l2 l3 l6 l8 x0 y0 x1 y1 x2 y2 x3 y3 x4 y4 x5 y5 x6 y6 x7 y7 x8 y8 x9 y9 l2_1 l3_1 l2_2 l3_2 l2_3 l3_3 l2_4 l3_4
  have l3 := M3.out.lt
  have l6 := M6.out.lt
  have l3_1 : w.heap.size + 1 < wy.heap.size + 1 := by omega
  have l3_2 : w.heap.size + 1 < wy.heap.size + 1 + 1 := by omega
  have l3_3 : w.heap.size + 1 < wy.heap.size + 1 + 1 + 1 := by omega
  have l3_4 : w.heap.size + 1 < wy.heap.size + 1 + 1 + 1 + 1 := by omega
  have l6_1 : w.heap.size + 1 + 1 + 1 + 1 < wy.heap.size + 1 := by omega
  have l6_2 : w.heap.size + 1 + 1 + 1 + 1 < wy.heap.size + 1 + 1 := by omega
  have l6_3 : w.heap.size + 1 + 1 + 1 + 1 < wy.heap.size + 1 + 1 + 1 := by omega
  have l6_4 : w.heap.size + 1 + 1 + 1 + 1 < wy.heap.size + 1 + 1 + 1 + 1 := by omega
  have y0 := M3.out.c0
  have y1 := M3.out.c1
  have y2 := M3.out.c2
  have y3 := M3.out.c3
  have y4 := M3.out.c4
  have y5 := M3.out.c5
  have y6 := M3.out.c6
  have y7 := M3.out.c7
  have y8 := M3.out.c8
  have y9 := M3.out.c9
  have f0 := M3.out.f 0
  have f1 := M3.out.f 1
  have f2 := M3.out.f 2
  have f3 := M3.out.f 3
  have f4 := M3.out.f 4
  have f5 := M3.out.f 5
  have f6 := M3.out.f 6
  have f7 := M3.out.f 7
  have f8 := M3.out.f 8
  have f9 := M3.out.f 9
  have z0 := M6.out.c0
  have z1 := M6.out.c1
  have z2 := M6.out.c2
  have z3 := M6.out.c3
  have z4 := M6.out.c4
  have z5 := M6.out.c5
  have z6 := M6.out.c6
  have z7 := M6.out.c7
  have z8 := M6.out.c8
  have z9 := M6.out.c9
  have e0 := M6.out.f 0
  have e1 := M6.out.f 1
  have e2 := M6.out.f 2
  have e3 := M6.out.f 3
  have e4 := M6.out.f 4
  have e5 := M6.out.f 5
  have e6 := M6.out.f 6
  have e7 := M6.out.f 7
  have e8 := M6.out.f 8
  have e9 := M6.out.f 9
  go_wp2_with fail
  refine (HHC _).out.mono ?_
  rintro e w4 ⟨rfl, X4, Y4, rfl⟩
  go_wp2_with fail
  refine (HHO _).out.mono ?_
  rintro e w5 ⟨rfl, X5, Y5, rfl⟩
  go_wp2
  have hb := HB2.out
  refine HK.out _ _ _ _ _ _ _ _ _ _ _ _ _ _ _ _ _ _ _ _ _ _ _ _ _ _ _ _ _ _ _ _ ?_ ?_ ?_ ?_ ?_ ?_ ?_
  · repeat' (first | (with_reducible exact hb) | (with_reducible exact Below.refl _ _) | (with_reducible refine below_drewN ?_ _) | (with_reducible refine Below.drew ?_) | (with_reducible refine Below.alloc ?_ ?_ _) | (with_reducible refine Below.setCell ?_ ?_ _) | (simp; done) | (simp; omega) | omega)
  · repeat' (with_reducible first | exact M2.out | refine DigAt.drewN ?_ _ | refine DigAt.drew ?_ | refine DigAt.alloc ?_ _ | refine DigAt.other ?_ _ (by omega))
  · repeat' (with_reducible first | exact Room10.store M3.out.room _ | refine DigAt.drewN ?_ _ | refine DigAt.drew ?_ | refine DigAt.alloc ?_ _ | refine DigAt.other ?_ _ (by omega))
  · repeat' (with_reducible first | exact M4.out | refine Room10.drewN ?_ _ | refine Room10.drew ?_ | refine Room10.alloc ?_ _ | refine Room10.other ?_ _)
  · repeat' (with_reducible first | exact M5.out | refine Room10.drewN ?_ _ | refine Room10.drew ?_ | refine Room10.alloc ?_ _ | refine Room10.other ?_ _)
  · repeat' (with_reducible first | exact Room10.store (Room10.other (Room10.other (Room10.other (Room10.other (Room10.other (Room10.other (Room10.other (Room10.other (Room10.other (Room10.other M6.out.room _) _) _) _) _) _) _) _) _) _) _ | refine DigAt.drewN ?_ _ | refine DigAt.drew ?_ | refine DigAt.alloc ?_ _ | refine DigAt.other ?_ _ (by omega))
  · repeat' (with_reducible first | exact M8.out | refine DigAt.drewN ?_ _ | refine DigAt.drew ?_ | refine DigAt.alloc ?_ _ | refine DigAt.other ?_ _ (by omega))
end Go.Proofs.Ytejbblpgdlanoaa
