/- The contracts of falseworkref01, tenth part: Divide, a round of the first loop (up_stop). -/
import Derived.Test.YtaebbfaheaghfaaDivB
namespace Go.Proofs.Ytaebbfaheaghfaa
open Go.RowKit

set_option maxHeartbeats 80000000 in
set_option maxRecDepth 100000 in
theorem up_stop (a C O : Int) (s : Nat) (w wr : World) (v0 v1 v8 v9 v10 v11 v27 v28 v29 v30 v31 v32 v33 v34 v35 v36 v37 v38 v39 v40 v41 v42 v43 v44 v45 v46 v47 v48 v49 v50 v51 v52 v53 v54 v55 v56 v57 v58 v59 : Value) (u12 u13 u14 u15 u16 u17 u18 u19 u20 u21 u22 u23 u24 u25 u26 : Value) (K : Act → World → Prop) (Q : Exit → Act → World → Prop)
    (HB : Hid (Below w.heap.size w wr)) (N2 : Hid (DigAt wr (w.heap.size) a)) (N3 : Hid (DigAt wr (w.heap.size + 1) C)) (N4 : Hid (Room10 wr (w.heap.size + 1 + 1))) (N5 : Hid (Room10 wr (w.heap.size + 1 + 1 + 1))) (N6 : Hid (DigAt wr (w.heap.size + 1 + 1 + 1 + 1) O))
    (a0 : 0 ≤ a) (a1 : a < 1361129467683753853853498429727072845824) (d1 : 0 < C) (d2 : C < 1361129467683753853853498429727072845824) (d3 : 0 < O) (d4 : O ≤ C) (h2 : a < 2 * C)
    (HX : Hid (∀ (u12 u13 u14 u15 u16 u17 u18 u19 u20 u21 u22 u23 u24 u25 u26 : Value) (w' : World), Below w.heap.size w w' → DigAt w' (w.heap.size) (a) → DigAt w' (w.heap.size + 1) (C) → Room10 w' (w.heap.size + 1 + 1) → Room10 w' (w.heap.size + 1 + 1 + 1) → DigAt w' (w.heap.size + 1 + 1 + 1 + 1) (O) → Q (.exit 0) ⟨List.toArray (v0 :: v1 :: .pointer (some ⟨w.heap.size, 0, none⟩) :: .pointer (some ⟨w.heap.size + 1, 0, none⟩) :: .pointer (some ⟨w.heap.size + 1 + 1, 0, none⟩) :: .pointer (some ⟨w.heap.size + 1 + 1 + 1, 0, none⟩) :: .pointer (some ⟨w.heap.size + 1 + 1 + 1 + 1, 0, none⟩) :: .int .i64 (s : Int) :: v8 :: v9 :: v10 :: v11 :: u12 :: u13 :: u14 :: u15 :: u16 :: u17 :: u18 :: u19 :: u20 :: u21 :: u22 :: u23 :: u24 :: u25 :: u26 :: v27 :: v28 :: v29 :: v30 :: v31 :: v32 :: v33 :: v34 :: v35 :: v36 :: v37 :: v38 :: v39 :: v40 :: v41 :: v42 :: v43 :: v44 :: v45 :: v46 :: v47 :: v48 :: v49 :: v50 :: v51 :: v52 :: v53 :: v54 :: v55 :: v56 :: v57 :: v58 :: v59 :: []), []⟩ w')) :
    Code.wp Try.prog ((Try.f48.body.map loopsOf).getD [] |>.getD 0 .skip) (Exit.then K Q) ⟨List.toArray (v0 :: v1 :: .pointer (some ⟨w.heap.size, 0, none⟩) :: .pointer (some ⟨w.heap.size + 1, 0, none⟩) :: .pointer (some ⟨w.heap.size + 1 + 1, 0, none⟩) :: .pointer (some ⟨w.heap.size + 1 + 1 + 1, 0, none⟩) :: .pointer (some ⟨w.heap.size + 1 + 1 + 1 + 1, 0, none⟩) :: .int .i64 (s : Int) :: v8 :: v9 :: v10 :: v11 :: u12 :: u13 :: u14 :: u15 :: u16 :: u17 :: u18 :: u19 :: u20 :: u21 :: u22 :: u23 :: u24 :: u25 :: u26 :: v27 :: v28 :: v29 :: v30 :: v31 :: v32 :: v33 :: v34 :: v35 :: v36 :: v37 :: v38 :: v39 :: v40 :: v41 :: v42 :: v43 :: v44 :: v45 :: v46 :: v47 :: v48 :: v49 :: v50 :: v51 :: v52 :: v53 :: v54 :: v55 :: v56 :: v57 :: v58 :: v59 :: []), []⟩ wr := by
  refine Code.wp_mono (then_np K Q) ?_
  conv => arg 2; whnf
  have l2 := N2.out.lt
  have l3 := N3.out.lt
  have l6 := N6.out.lt
  have HSH := fun w => Lib.hid (shifted_any C w (by omega) (by omega))
  have HSO := fun w => Lib.hid (shifted_any O w (by omega) (by omega))
  have hle := fun w => less_any (2 * C) a w (by omega) (by omega) (by omega) (by omega)
  rw [cmp_one h2] at hle
  have HLE := fun w => Lib.hid (hle w)
  clear hle
  clear h2 a0 a1 d1 d2 d3 d4
  have x0 := N2.out.c0
  have x1 := N2.out.c1
  have x2 := N2.out.c2
  have x3 := N2.out.c3
  have x4 := N2.out.c4
  have x5 := N2.out.c5
  have x6 := N2.out.c6
  have x7 := N2.out.c7
  have x8 := N2.out.c8
  have x9 := N2.out.c9
  have y0 := N3.out.c0
  have y1 := N3.out.c1
  have y2 := N3.out.c2
  have y3 := N3.out.c3
  have y4 := N3.out.c4
  have y5 := N3.out.c5
  have y6 := N3.out.c6
  have y7 := N3.out.c7
  have y8 := N3.out.c8
  have y9 := N3.out.c9
  go_upto_region 3 with (fail)
  go_cut [20] from 12 to 26 (fun t wx => t = .bool false ∧ Below wr.heap.size wr wx)
  case first =>
    have l2_1 : w.heap.size < wr.heap.size + 1 := by omega
    have l2_2 : w.heap.size < wr.heap.size + 1 + 1 := by omega
    have l2_3 : w.heap.size < wr.heap.size + 1 + 1 + 1 := by omega
    have l2_4 : w.heap.size < wr.heap.size + 1 + 1 + 1 + 1 := by omega
    have l2_5 : w.heap.size < wr.heap.size + 1 + 1 + 1 + 1 + 1 := by omega
    have l2_6 : w.heap.size < wr.heap.size + 1 + 1 + 1 + 1 + 1 + 1 := by omega
    have l3_1 : w.heap.size + 1 < wr.heap.size + 1 := by omega
    have l3_2 : w.heap.size + 1 < wr.heap.size + 1 + 1 := by omega
    have l3_3 : w.heap.size + 1 < wr.heap.size + 1 + 1 + 1 := by omega
    have l3_4 : w.heap.size + 1 < wr.heap.size + 1 + 1 + 1 + 1 := by omega
    have l3_5 : w.heap.size + 1 < wr.heap.size + 1 + 1 + 1 + 1 + 1 := by omega
    have l3_6 : w.heap.size + 1 < wr.heap.size + 1 + 1 + 1 + 1 + 1 + 1 := by omega
    have hb := Below.refl wr.heap.size wr
    first | go_region_with (first | (go_at_call 49; refine (HSH _).out.mono ?_; rintro e w1 ⟨rfl, X1, Y1, Z1, U1, n1, rfl⟩) | (go_at_call 35; refine (HLE _).out.mono ?_; rintro e w2 ⟨rfl, X2, Y2, n2, rfl⟩)) | fail
    all_goals
      go_wp2_with fail
      go_meet
      exact ⟨rfl, by repeat' (first | (with_reducible exact hb) | (with_reducible exact Below.refl _ _) | (with_reducible refine below_drewN ?_ _) | (with_reducible refine Below.drew ?_) | (with_reducible refine Below.alloc ?_ ?_ _) | (with_reducible refine Below.setCell ?_ ?_ _) | (simp; done) | (simp; omega) | omega)⟩
  case rest =>
  obtain ⟨rfl, hb⟩ := hcut
  have M2 := Lib.hid (N2.out.below hb)
  have M3 := Lib.hid (N3.out.below hb)
  have M4 := Lib.hid (N4.out.below hb)
  have M5 := Lib.hid (N5.out.below hb)
  have M6 := Lib.hid (N6.out.below hb)
  have HB2 := Lib.hid (bl_trans HB.out hb)
  clear hb N2 N3 N4 N5 N6 HB HLE l2 l3 l6 x0 y0 x1 y1 x2 y2 x3 y3 x4 y4 x5 y5 x6 y6 x7 y7 x8 y8 x9 y9
  go_wp2
  have hb := HB2.out
  exact HX.out _ _ _ _ _ _ _ _ _ _ _ _ _ _ _ _ hb M2.out M3.out M4.out M5.out M6.out
end Go.Proofs.Ytaebbfaheaghfaa
