/- Text, of the document's answer. -/
import Derived.Test.YtfifollmpohcoaaDoorCivF
namespace Go.Proofs.YtfifollmpohcoaaDoor
open Go.RowKit Go.Sort

set_option maxHeartbeats 400000 in
theorem rtext_no (y m d : Int) (w : World) (hy : I y) (hR : ¬ rightP y m d) : Calls Tryd.prog 21 #[.agg #[.int .i64 y, .int .i64 m, .int .i64 d]] w fun e w' => e = .returned (.string ⟨#[]⟩) ∧ Gr w w' := by
  have C : ∀ W, Hid (Calls Tryd.prog 15 #[.agg #[.int .i64 y, .int .i64 m, .int .i64 d]] W fun e w' => e = .returned (.bool false) ∧ Gr W w') := fun W => rright_no W hy hR
  clear hy hR
  have hG := Lib.hid ((Gr.refl w).alloc (Obj.cells #[Value.int IntKind.i64 y, Value.int IntKind.i64 m, Value.int IntKind.i64 d] 23))
  go_enter Tryd.func21, Tryd.ntmps21
  go_wp2_with fail
  refine (C _).out.mono ?_
  rintro e w1 ⟨rfl, hg⟩
  have HG := Lib.hid (hG.out.trans hg)
  clear hg
  go_wp2
  go_ret
  exact ⟨rfl, HG.out⟩

theorem ix_0 (x1 x2 x3 x4 x5 x6 x7 x8 : Int) (w : World) : (Instr.index 48 (.agg #[.int .i64 x1, .int .i64 x2, .int .i64 x3, .int .i64 x4, .int .i64 x5, .int .i64 x6, .int .i64 x7, .int .i64 x8]) (.int .i64 0)).run Tryd.prog w = .ok (.int .i64 x1) w := by
  simp [Instr.index, run_underlying Tryd.underlying48, asIntOf, go_sem]
theorem ix_1 (x1 x2 x3 x4 x5 x6 x7 x8 : Int) (w : World) : (Instr.index 48 (.agg #[.int .i64 x1, .int .i64 x2, .int .i64 x3, .int .i64 x4, .int .i64 x5, .int .i64 x6, .int .i64 x7, .int .i64 x8]) (.int .i64 1)).run Tryd.prog w = .ok (.int .i64 x2) w := by
  simp [Instr.index, run_underlying Tryd.underlying48, asIntOf, go_sem]
theorem ix_2 (x1 x2 x3 x4 x5 x6 x7 x8 : Int) (w : World) : (Instr.index 48 (.agg #[.int .i64 x1, .int .i64 x2, .int .i64 x3, .int .i64 x4, .int .i64 x5, .int .i64 x6, .int .i64 x7, .int .i64 x8]) (.int .i64 2)).run Tryd.prog w = .ok (.int .i64 x3) w := by
  simp [Instr.index, run_underlying Tryd.underlying48, asIntOf, go_sem]
theorem ix_3 (x1 x2 x3 x4 x5 x6 x7 x8 : Int) (w : World) : (Instr.index 48 (.agg #[.int .i64 x1, .int .i64 x2, .int .i64 x3, .int .i64 x4, .int .i64 x5, .int .i64 x6, .int .i64 x7, .int .i64 x8]) (.int .i64 3)).run Tryd.prog w = .ok (.int .i64 x4) w := by
  simp [Instr.index, run_underlying Tryd.underlying48, asIntOf, go_sem]
theorem ix_4 (x1 x2 x3 x4 x5 x6 x7 x8 : Int) (w : World) : (Instr.index 48 (.agg #[.int .i64 x1, .int .i64 x2, .int .i64 x3, .int .i64 x4, .int .i64 x5, .int .i64 x6, .int .i64 x7, .int .i64 x8]) (.int .i64 4)).run Tryd.prog w = .ok (.int .i64 x5) w := by
  simp [Instr.index, run_underlying Tryd.underlying48, asIntOf, go_sem]
theorem ix_5 (x1 x2 x3 x4 x5 x6 x7 x8 : Int) (w : World) : (Instr.index 48 (.agg #[.int .i64 x1, .int .i64 x2, .int .i64 x3, .int .i64 x4, .int .i64 x5, .int .i64 x6, .int .i64 x7, .int .i64 x8]) (.int .i64 5)).run Tryd.prog w = .ok (.int .i64 x6) w := by
  simp [Instr.index, run_underlying Tryd.underlying48, asIntOf, go_sem]
theorem ix_6 (x1 x2 x3 x4 x5 x6 x7 x8 : Int) (w : World) : (Instr.index 48 (.agg #[.int .i64 x1, .int .i64 x2, .int .i64 x3, .int .i64 x4, .int .i64 x5, .int .i64 x6, .int .i64 x7, .int .i64 x8]) (.int .i64 6)).run Tryd.prog w = .ok (.int .i64 x7) w := by
  simp [Instr.index, run_underlying Tryd.underlying48, asIntOf, go_sem]
theorem ix_7 (x1 x2 x3 x4 x5 x6 x7 x8 : Int) (w : World) : (Instr.index 48 (.agg #[.int .i64 x1, .int .i64 x2, .int .i64 x3, .int .i64 x4, .int .i64 x5, .int .i64 x6, .int .i64 x7, .int .i64 x8]) (.int .i64 7)).run Tryd.prog w = .ok (.int .i64 x8) w := by
  simp [Instr.index, run_underlying Tryd.underlying48, asIntOf, go_sem]
theorem dgB_mod {a b : Int} (h : a % 10 = b % 10) : dgB a = dgB b := by unfold dgB; rw [h]
/-- one sign of the ten -/
theorem sign_at (x : Int) (h0 : 0 ≤ x) (h1 : x ≤ 9) : (⟨#[48, 49, 50, 51, 52, 53, 54, 55, 56, 57]⟩ : ByteArray).extract x.toNat (x + 1).toNat = ⟨#[dgB x]⟩ := by
  have : x = 0 ∨ x = 1 ∨ x = 2 ∨ x = 3 ∨ x = 4 ∨ x = 5 ∨ x = 6 ∨ x = 7 ∨ x = 8 ∨ x = 9 := by omega
  rcases this with rfl | rfl | rfl | rfl | rfl | rfl | rfl | rfl | rfl | rfl <;> rfl

theorem sign_run (x : Int) (h0 : 0 ≤ x) (h1 : x ≤ 9) (w : World) : (Instr.slice 9 (.string ⟨#[48, 49, 50, 51, 52, 53, 54, 55, 56, 57]⟩) (some (.int .i64 x)) (some (.int .i64 (x + 1))) none).run Tryd.prog w = .ok (.string ⟨#[dgB x]⟩) w := by
  rw [← sign_at x h0 h1]
  have hz : ((⟨#[48, 49, 50, 51, 52, 53, 54, 55, 56, 57]⟩ : ByteArray).size : Int) = 10 := rfl
  exact run_slice_string (P := Tryd.prog) (w := w) 9 _ .i64 .i64 x (x + 1) Tryd.underlying9 h0 (by omega) (by rw [hz]; omega)

set_option maxHeartbeats 400000 in
theorem rtext_yes (y m d : Int) (w : World) (hR : rightP y m d) : Calls Tryd.prog 21 #[.agg #[.int .i64 y, .int .i64 m, .int .i64 d]] w fun e w' => e = .returned (.string (textB y m d)) ∧ Gr w w' := by
  have hR' := hR
  obtain ⟨a1, a2, a3, a4, a5, a6⟩ := hR
  have a7 := lenF_hi y m
  have hy : I y := ⟨by omega, by omega⟩
  have C : ∀ W, Hid (Calls Tryd.prog 15 #[.agg #[.int .i64 y, .int .i64 m, .int .i64 d]] W fun e w' => e = .returned (.bool true) ∧ Gr W w') := fun W => rright_yes W hy hR'
  have p1 : y.tdiv 1000 = y / 1000 := Int.tdiv_eq_ediv_of_nonneg (by omega)
  have p2 : y.tdiv 100 = y / 100 := Int.tdiv_eq_ediv_of_nonneg (by omega)
  have p3 : y.tdiv 10 = y / 10 := Int.tdiv_eq_ediv_of_nonneg (by omega)
  have p4 : y.tmod 10 = y % 10 := Int.tmod_eq_emod_of_nonneg (by omega)
  have p5 : (y / 100).tmod 10 = y / 100 % 10 := Int.tmod_eq_emod_of_nonneg (by omega)
  have p6 : (y / 10).tmod 10 = y / 10 % 10 := Int.tmod_eq_emod_of_nonneg (by omega)
  have p7 : m.tdiv 10 = m / 10 := Int.tdiv_eq_ediv_of_nonneg (by omega)
  have p8 : m.tmod 10 = m % 10 := Int.tmod_eq_emod_of_nonneg (by omega)
  have p9 : d.tdiv 10 = d / 10 := Int.tdiv_eq_ediv_of_nonneg (by omega)
  have p10 : d.tmod 10 = d % 10 := Int.tmod_eq_emod_of_nonneg (by omega)
  have q1 : 0 ≤ y / 1000 ∧ y / 1000 ≤ 9 := by omega
  have q2 : 0 ≤ y / 100 % 10 ∧ y / 100 % 10 ≤ 9 := by omega
  have q3 : 0 ≤ y / 10 % 10 ∧ y / 10 % 10 ≤ 9 := by omega
  have q4 : 0 ≤ y % 10 ∧ y % 10 ≤ 9 := by omega
  have q5 : 0 ≤ m / 10 ∧ m / 10 ≤ 9 := by omega
  have q6 : 0 ≤ m % 10 ∧ m % 10 ≤ 9 := by omega
  have q7 : 0 ≤ d / 10 ∧ d / 10 ≤ 9 := by omega
  have q8 : 0 ≤ d % 10 ∧ d % 10 ≤ 9 := by omega
  have HT := Lib.hid (show textB y m d = ⟨#[dgB (y / 1000), dgB (y / 100 % 10), dgB (y / 10 % 10), dgB (y % 10), 45, dgB (m / 10), dgB (m % 10), 45, dgB (d / 10), dgB (d % 10)]⟩ by
    unfold textB
    rw [dgB_mod (show y / 10 / 10 / 10 % 10 = y / 1000 % 10 by omega), dgB_mod (show y / 10 / 10 % 10 = y / 100 % 10 % 10 by omega), dgB_mod (show y / 10 % 10 = y / 10 % 10 % 10 by omega), dgB_mod (show y % 10 = y % 10 % 10 by omega), dgB_mod (show m % 10 = m % 10 % 10 by omega), dgB_mod (show d % 10 = d % 10 % 10 by omega)])
  clear hy hR' a1 a2 a3 a4 a5 a6 a7
  obtain ⟨c0, c1, c2⟩ := boxed w y m d 23
  have hG := Lib.hid ((Gr.refl w).alloc (Obj.cells #[Value.int IntKind.i64 y, Value.int IntKind.i64 m, Value.int IntKind.i64 d] 23))
  have hS := Lib.hid (show w.heap.size < (w.alloc (Obj.cells #[Value.int IntKind.i64 y, Value.int IntKind.i64 m, Value.int IntKind.i64 d] 23)).heap.size by simp)
  go_enter Tryd.func21, Tryd.ntmps21
  go_wp2_with fail
  refine (C _).out.mono ?_
  rintro e w1 ⟨rfl, hg⟩
  have HG := Lib.hid (hG.out.trans hg)
  have e0 := gcell hg hS.out c0
  have e1 := gcell hg hS.out c1
  have e2 := gcell hg hS.out c2
  have HS1 := Lib.hid (Nat.lt_of_lt_of_le hS.out hg.size)
  clear hg c0 c1 c2 C hG hS
  go_wp2
  clear e0 e1 e2 p1 p2 p3 p4 p5 p6 p7 p8 p9 p10
  generalize y / 100 % 10 = x2 at *
  generalize y / 10 % 10 = x3 at *
  generalize y % 10 = x4 at *
  generalize y / 1000 = x1 at *
  generalize m % 10 = x6 at *
  generalize d % 10 = x8 at *
  generalize m / 10 = x5 at *
  generalize d / 10 = x7 at *
  obtain ⟨lx1, ux1⟩ := q1
  have sx1 := sign_run x1 lx1 ux1
  obtain ⟨lx2, ux2⟩ := q2
  have sx2 := sign_run x2 lx2 ux2
  obtain ⟨lx3, ux3⟩ := q3
  have sx3 := sign_run x3 lx3 ux3
  obtain ⟨lx4, ux4⟩ := q4
  have sx4 := sign_run x4 lx4 ux4
  obtain ⟨lx5, ux5⟩ := q5
  have sx5 := sign_run x5 lx5 ux5
  obtain ⟨lx6, ux6⟩ := q6
  have sx6 := sign_run x6 lx6 ux6
  obtain ⟨lx7, ux7⟩ := q7
  have sx7 := sign_run x7 lx7 ux7
  obtain ⟨lx8, ux8⟩ := q8
  have sx8 := sign_run x8 lx8 ux8
  have j0 := ix_0 x1 x2 x3 x4 x5 x6 x7 x8
  have j1 := ix_1 x1 x2 x3 x4 x5 x6 x7 x8
  have j2 := ix_2 x1 x2 x3 x4 x5 x6 x7 x8
  have j3 := ix_3 x1 x2 x3 x4 x5 x6 x7 x8
  have j4 := ix_4 x1 x2 x3 x4 x5 x6 x7 x8
  have j5 := ix_5 x1 x2 x3 x4 x5 x6 x7 x8
  have j6 := ix_6 x1 x2 x3 x4 x5 x6 x7 x8
  have j7 := ix_7 x1 x2 x3 x4 x5 x6 x7 x8
  have k0 : (⟨#[]⟩ : ByteArray) ++ (⟨#[dgB x1]⟩ : ByteArray) = ⟨#[dgB x1]⟩ := rfl
  have k1 : (⟨#[dgB x1]⟩ : ByteArray) ++ (⟨#[dgB x2]⟩ : ByteArray) = ⟨#[dgB x1, dgB x2]⟩ := rfl
  have k2 : (⟨#[dgB x1, dgB x2]⟩ : ByteArray) ++ (⟨#[dgB x3]⟩ : ByteArray) = ⟨#[dgB x1, dgB x2, dgB x3]⟩ := rfl
  have k3 : (⟨#[dgB x1, dgB x2, dgB x3]⟩ : ByteArray) ++ (⟨#[dgB x4]⟩ : ByteArray) = ⟨#[dgB x1, dgB x2, dgB x3, dgB x4]⟩ := rfl
  have k4 : (⟨#[dgB x1, dgB x2, dgB x3, dgB x4]⟩ : ByteArray) ++ (⟨#[45]⟩ : ByteArray) = ⟨#[dgB x1, dgB x2, dgB x3, dgB x4, 45]⟩ := rfl
  have k5 : (⟨#[dgB x1, dgB x2, dgB x3, dgB x4, 45]⟩ : ByteArray) ++ (⟨#[dgB x5]⟩ : ByteArray) = ⟨#[dgB x1, dgB x2, dgB x3, dgB x4, 45, dgB x5]⟩ := rfl
  have k6 : (⟨#[dgB x1, dgB x2, dgB x3, dgB x4, 45, dgB x5]⟩ : ByteArray) ++ (⟨#[dgB x6]⟩ : ByteArray) = ⟨#[dgB x1, dgB x2, dgB x3, dgB x4, 45, dgB x5, dgB x6]⟩ := rfl
  have k7 : (⟨#[dgB x1, dgB x2, dgB x3, dgB x4, 45, dgB x5, dgB x6]⟩ : ByteArray) ++ (⟨#[45]⟩ : ByteArray) = ⟨#[dgB x1, dgB x2, dgB x3, dgB x4, 45, dgB x5, dgB x6, 45]⟩ := rfl
  have k8 : (⟨#[dgB x1, dgB x2, dgB x3, dgB x4, 45, dgB x5, dgB x6, 45]⟩ : ByteArray) ++ (⟨#[dgB x7]⟩ : ByteArray) = ⟨#[dgB x1, dgB x2, dgB x3, dgB x4, 45, dgB x5, dgB x6, 45, dgB x7]⟩ := rfl
  have k9 : (⟨#[dgB x1, dgB x2, dgB x3, dgB x4, 45, dgB x5, dgB x6, 45, dgB x7]⟩ : ByteArray) ++ (⟨#[dgB x8]⟩ : ByteArray) = ⟨#[dgB x1, dgB x2, dgB x3, dgB x4, 45, dgB x5, dgB x6, 45, dgB x7, dgB x8]⟩ := rfl
  refine wp_loop_rounds 9 ?_
  rw [rounds_succ]
  go_wp2
  rw [rounds_succ]
  go_wp2
  rw [rounds_succ]
  go_wp2
  rw [rounds_succ]
  go_wp2
  rw [rounds_succ]
  go_wp2
  rw [rounds_succ]
  go_wp2
  rw [rounds_succ]
  go_wp2
  rw [rounds_succ]
  go_wp2
  rw [rounds_succ]
  go_wp2
  go_ret
  exact ⟨by rw [HT.out]; rfl, HG.out⟩
end Go.Proofs.YtfifollmpohcoaaDoor
