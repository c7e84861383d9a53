/- Parse, of the document's answer. -/
import Derived.Test.YtfifollmpohcoaaDoorCivM
import Derived.Test.YtfifollmpohcoaaDoorCivK
import Derived.StillTailTactics
namespace Go.Proofs.YtfifollmpohcoaaDoor
open Go.RowKit Go.Sort

/-- what a sign is worth -/
def digF (c : UInt8) : Int := if (c.toNat : Int) < 48 ∨ 57 < (c.toNat : Int) then 100 else (c.toNat : Int) - 48
theorem digF_bd (c : UInt8) : 0 ≤ digF c ∧ digF c ≤ 100 := by unfold digF; split <;> omega
def rv4 (a b c d : UInt8) : Int := 1000 * digF a + 100 * digF b + 10 * digF c + digF d
def rv2 (a b : UInt8) : Int := 10 * digF a + digF b
theorem digF_dg (n : Int) : digF (dgB n) = n % 10 := by
  unfold digF
  rw [dgB_nat, if_neg (by omega)]
  omega
theorem rtext_val {y m d : Int} (h : rightP y m d) : rv4 (dgB (y / 10 / 10 / 10)) (dgB (y / 10 / 10)) (dgB (y / 10)) (dgB y) = y ∧ rv2 (dgB (m / 10)) (dgB m) = m ∧ rv2 (dgB (d / 10)) (dgB d) = d := by
  obtain ⟨a1, a2, a3, a4, a5, a6⟩ := h
  have := lenF_hi y m
  unfold rv4 rv2
  simp only [digF_dg]
  refine ⟨by omega, by omega, by omega⟩

set_option maxHeartbeats 400000 in
theorem rdigit_any (c : UInt8) (w : World) : Calls Tryd.prog 32 #[.int .u8 (c.toNat : Int)] w fun e w' => e = .returned (.int .i64 (digF c)) ∧ w = w' := by
  have h0 : (c.toNat : Int) < 256 := by have := c.toNat_lt; omega
  have h1 : (0 : Int) ≤ (c.toNat : Int) := by omega
  have HD := Lib.hid (show digF c = if (c.toNat : Int) < 48 ∨ 57 < (c.toNat : Int) then 100 else (c.toNat : Int) - 48 from rfl)
  generalize (c.toNat : Int) = v at *
  by_cases a : v < 48
  · have d0 : decide (v < 48) = true := by simp only [decide_eq_true_eq]; exact a
    go_enter Tryd.func32, Tryd.ntmps32
    go_wp2
    go_ret
    exact ⟨by rw [HD.out, if_pos (Or.inl a)]; rfl, rfl⟩
  by_cases b : 57 < v
  · have d0 : decide (v < 48) = false := by simp only [decide_eq_false_iff_not]; exact a
    have d1 : decide (57 < v) = true := by simp only [decide_eq_true_eq]; exact b
    go_enter Tryd.func32, Tryd.ntmps32
    go_wp2
    go_ret
    exact ⟨by rw [HD.out, if_pos (Or.inr b)]; rfl, rfl⟩
  · have d0 : decide (v < 48) = false := by simp only [decide_eq_false_iff_not]; exact a
    have d1 : decide (57 < v) = false := by simp only [decide_eq_false_iff_not]; exact b
    go_enter Tryd.func32, Tryd.ntmps32
    go_wp2
    go_ret
    exact ⟨by rw [HD.out, if_neg (by omega)]; rfl, rfl⟩

set_option maxHeartbeats 400000 in
theorem rparse_short (s : ByteArray) (w : World) (h : s.size ≠ 10) : Calls Tryd.prog 26 #[.string s] w fun e w' => e = .returned (.tuple #[.agg #[.int .i64 0, .int .i64 0, .int .i64 0], .int .i64 31]) ∧ Gr w w' := by
  have h1 : ¬ (s.size : Int) = 10 := by omega
  go_enter Tryd.func26, Tryd.ntmps26
  go_wp2
  refine bodyPost_ret (v := .tuple #[.agg #[.int .i64 0, .int .i64 0, .int .i64 0], .int .i64 31]) (by simp [results, Tryd.results26, go_sem]) rfl ⟨rfl, ?_⟩
  repeat' (first | (with_reducible exact Gr.refl _) | with_reducible apply Gr.alloc | (with_reducible refine Gr.setCell ?_ ?_ _) | (simp; done))

theorem two_facts (w : World) (y m d : Int) (w' : World) (h : Gr (((w.alloc (Obj.cells #[Value.int IntKind.i64 0, Value.int IntKind.i64 0, Value.int IntKind.i64 0] 23)).alloc (Obj.cells #[Value.int IntKind.i64 y, Value.int IntKind.i64 m, Value.int IntKind.i64 d] 23)).drew) w') : w'.cell? ⟨w.heap.size, 0, none⟩ = some (.int .i64 0) ∧ w'.cell? ⟨w.heap.size, 1, none⟩ = some (.int .i64 0) ∧ w'.cell? ⟨w.heap.size, 2, none⟩ = some (.int .i64 0) ∧ w'.frozen? ⟨w.heap.size, 0, none⟩ = false ∧ w'.frozen? ⟨w.heap.size, 1, none⟩ = false ∧ w'.frozen? ⟨w.heap.size, 2, none⟩ = false ∧ w'.cell? ⟨w.heap.size + 1, 0, none⟩ = some (.int .i64 y) ∧ w'.cell? ⟨w.heap.size + 1, 1, none⟩ = some (.int .i64 m) ∧ w'.cell? ⟨w.heap.size + 1, 2, none⟩ = some (.int .i64 d) ∧ w.heap.size + 1 < w'.heap.size := by
  obtain ⟨bz, bf, bd0, bd1, bd2, bsz⟩ := two_boxes w y m d
  have l0 : w.heap.size < (((w.alloc (Obj.cells #[Value.int IntKind.i64 0, Value.int IntKind.i64 0, Value.int IntKind.i64 0] 23)).alloc (Obj.cells #[Value.int IntKind.i64 y, Value.int IntKind.i64 m, Value.int IntKind.i64 d] 23)).drew).heap.size := by rw [bsz]; omega
  have l1 : w.heap.size + 1 < (((w.alloc (Obj.cells #[Value.int IntKind.i64 0, Value.int IntKind.i64 0, Value.int IntKind.i64 0] 23)).alloc (Obj.cells #[Value.int IntKind.i64 y, Value.int IntKind.i64 m, Value.int IntKind.i64 d] 23)).drew).heap.size := by rw [bsz]; omega
  exact ⟨gcell h l0 (bz 0 (by omega)), gcell h l0 (bz 1 (by omega)), gcell h l0 (bz 2 (by omega)), gfrozen h l0 (bf 0 (by omega)), gfrozen h l0 (bf 1 (by omega)), gfrozen h l0 (bf 2 (by omega)), gcell h l1 bd0, gcell h l1 bd1, gcell h l1 bd2, Nat.lt_of_lt_of_le l1 h.size⟩

set_option maxHeartbeats 1000000 in
theorem rparse_x (c0 c1 c2 c3 c4 c5 c6 c7 c8 c9 : UInt8) (y m d : Int) (w : World) (hy : rv4 c0 c1 c2 c3 = y) (hm : rv2 c5 c6 = m) (hd : rv2 c8 c9 = d)
    (R : ∀ W, Calls Tryd.prog 15 #[.agg #[.int .i64 y, .int .i64 m, .int .i64 d]] W fun e w' => e = .returned (.bool false) ∧ Gr W w') :
    Calls Tryd.prog 26 #[.string ⟨#[c0, c1, c2, c3, c4, c5, c6, c7, c8, c9]⟩] w fun e w' => e = .returned (.tuple #[.agg #[.int .i64 0, .int .i64 0, .int .i64 0], .int .i64 31]) ∧ Gr w w' := by
  have X : ∀ c W, Calls Tryd.prog 32 #[.int .u8 (c.toNat : Int)] W fun e w' => e = .returned (.int .i64 (digF c)) ∧ w' = W := fun c W => (rdigit_any c W).mono fun _ _ ⟨h, k⟩ => ⟨h, k.symm⟩
  have hy' := Lib.hid (show 1000 * digF c0 + 100 * digF c1 + 10 * digF c2 + digF c3 = y from hy)
  have hm' := Lib.hid (show 10 * digF c5 + digF c6 = m from hm)
  have hd' := Lib.hid (show 10 * digF c8 + digF c9 = d from hd)
  have b0 := digF_bd c0
  have b1 := digF_bd c1
  have b2 := digF_bd c2
  have b3 := digF_bd c3
  have b5 := digF_bd c5
  have b6 := digF_bd c6
  have b8 := digF_bd c8
  have b9 := digF_bd c9
  have HR := Lib.hid R
  clear R
  have g0 : (⟨#[c0, c1, c2, c3, c4, c5, c6, c7, c8, c9]⟩ : ByteArray)[0]'(by show 0 < 10; omega) = c0 := rfl
  have g1 : (⟨#[c0, c1, c2, c3, c4, c5, c6, c7, c8, c9]⟩ : ByteArray)[1]'(by show 1 < 10; omega) = c1 := rfl
  have g2 : (⟨#[c0, c1, c2, c3, c4, c5, c6, c7, c8, c9]⟩ : ByteArray)[2]'(by show 2 < 10; omega) = c2 := rfl
  have g3 : (⟨#[c0, c1, c2, c3, c4, c5, c6, c7, c8, c9]⟩ : ByteArray)[3]'(by show 3 < 10; omega) = c3 := rfl
  have g5 : (⟨#[c0, c1, c2, c3, c4, c5, c6, c7, c8, c9]⟩ : ByteArray)[5]'(by show 5 < 10; omega) = c5 := rfl
  have g6 : (⟨#[c0, c1, c2, c3, c4, c5, c6, c7, c8, c9]⟩ : ByteArray)[6]'(by show 6 < 10; omega) = c6 := rfl
  have g8 : (⟨#[c0, c1, c2, c3, c4, c5, c6, c7, c8, c9]⟩ : ByteArray)[8]'(by show 8 < 10; omega) = c8 := rfl
  have g9 : (⟨#[c0, c1, c2, c3, c4, c5, c6, c7, c8, c9]⟩ : ByteArray)[9]'(by show 9 < 10; omega) = c9 := rfl
  clear hy hm hd
  go_enter Tryd.func26, Tryd.ntmps26
  go_wp2_with fail
  refine wp_region_still_tail 18 mixedT (by kernel_rfl) ?_
  simp only [List.take_succ_cons, List.take_zero, List.drop_succ_cons, List.drop_zero]
  repeat (first | still_step | still_call (X _ _))
  refine wpStill_nil ?_
  change wpList _ _ _ _ _ ((w.alloc (Obj.cells #[Value.int IntKind.i64 0, Value.int IntKind.i64 0, Value.int IntKind.i64 0] 23)).alloc (Obj.cells #[Value.int IntKind.i64 0, Value.int IntKind.i64 0, Value.int IntKind.i64 0] 23)).drew
  go_wp2_with fail
  refine wp_region_still_tail 8 mixedT (by kernel_rfl) ?_
  simp only [List.take_succ_cons, List.take_zero, List.drop_succ_cons, List.drop_zero]
  repeat (first | still_step | still_call (X _ _))
  refine wpStill_nil ?_
  change wpList _ _ _ _ _ ((w.alloc (Obj.cells #[Value.int IntKind.i64 0, Value.int IntKind.i64 0, Value.int IntKind.i64 0] 23)).alloc (Obj.cells #[Value.int IntKind.i64 (1000 * digF c0 + 100 * digF c1 + 10 * digF c2 + digF c3), Value.int IntKind.i64 0, Value.int IntKind.i64 0] 23)).drew.drew
  go_wp2_with fail
  refine wp_region_still_tail 8 mixedT (by kernel_rfl) ?_
  simp only [List.take_succ_cons, List.take_zero, List.drop_succ_cons, List.drop_zero]
  repeat (first | still_step | still_call (X _ _))
  refine wpStill_nil ?_
  change wpList _ _ _ _ _ ((w.alloc (Obj.cells #[Value.int IntKind.i64 0, Value.int IntKind.i64 0, Value.int IntKind.i64 0] 23)).alloc (Obj.cells #[Value.int IntKind.i64 (1000 * digF c0 + 100 * digF c1 + 10 * digF c2 + digF c3), Value.int IntKind.i64 (10 * digF c5 + digF c6), Value.int IntKind.i64 0] 23)).drew.drew.drew
  go_wp2_with fail
  simp only [hy'.out, hm'.out, hd'.out]
  clear X b0 b1 b2 b3 b5 b6 b8 b9 hy' hm' hd' g0 g1 g2 g3 g5 g6 g8 g9
  have HP := Lib.hid (two_facts w y m d)
  obtain ⟨z0, z1, z2, r0, r1, r2, k0, k1, k2, sz⟩ := HP.out _ (((Gr.refl (((w.alloc (Obj.cells #[Value.int IntKind.i64 0, Value.int IntKind.i64 0, Value.int IntKind.i64 0] 23)).alloc (Obj.cells #[Value.int IntKind.i64 y, Value.int IntKind.i64 m, Value.int IntKind.i64 d] 23)).drew)).drew).drew)
  have HQ := Lib.hid (show ∀ w', Gr ((((w.alloc (Obj.cells #[Value.int IntKind.i64 0, Value.int IntKind.i64 0, Value.int IntKind.i64 0] 23)).alloc (Obj.cells #[Value.int IntKind.i64 y, Value.int IntKind.i64 m, Value.int IntKind.i64 d] 23)).drew).drew.drew) w' → Gr (((w.alloc (Obj.cells #[Value.int IntKind.i64 0, Value.int IntKind.i64 0, Value.int IntKind.i64 0] 23)).alloc (Obj.cells #[Value.int IntKind.i64 y, Value.int IntKind.i64 m, Value.int IntKind.i64 d] 23)).drew) w' from fun w' h => (((Gr.refl (((w.alloc (Obj.cells #[Value.int IntKind.i64 0, Value.int IntKind.i64 0, Value.int IntKind.i64 0] 23)).alloc (Obj.cells #[Value.int IntKind.i64 y, Value.int IntKind.i64 m, Value.int IntKind.i64 d] 23)).drew)).drew).drew).trans h)
  have HG := Lib.hid (show Gr w ((((w.alloc (Obj.cells #[Value.int IntKind.i64 0, Value.int IntKind.i64 0, Value.int IntKind.i64 0] 23)).alloc (Obj.cells #[Value.int IntKind.i64 y, Value.int IntKind.i64 m, Value.int IntKind.i64 d] 23)).drew).drew.drew) from (((((Gr.refl w).alloc _).alloc _).drew).drew).drew)
  generalize ((((w.alloc (Obj.cells #[Value.int IntKind.i64 0, Value.int IntKind.i64 0, Value.int IntKind.i64 0] 23)).alloc (Obj.cells #[Value.int IntKind.i64 y, Value.int IntKind.i64 m, Value.int IntKind.i64 d] 23)).drew).drew.drew) = W at *
  refine (HR.out _).mono ?_
  rintro e w6 ⟨rfl, hg6⟩
  clear z0 z1 z2 r0 r1 r2 k0 k1 k2 sz
  obtain ⟨z0, z1, z2, r0, r1, r2, k0, k1, k2, sz⟩ := HP.out _ (HQ.out _ hg6)
  have HGe := Lib.hid (HG.out.trans hg6)
  clear hg6 HP HQ HR HG
  go_wp2
  refine bodyPost_ret (v := .tuple #[.agg #[.int .i64 0, .int .i64 0, .int .i64 0], .int .i64 31]) (by simp [results, Tryd.results26, go_sem, *]) rfl ⟨rfl, ?_⟩
  repeat' (first | (with_reducible exact HGe.out) | (with_reducible refine Gr.setCell ?_ ?_ _) | (simp; done))

set_option maxHeartbeats 1000000 in
theorem rparse_y (c0 c1 c2 c3 c4 c5 c6 c7 c8 c9 t0 t1 t2 t3 t4 t5 t6 t7 t8 t9 : UInt8) (y m d : Int) (w : World) (hy : rv4 c0 c1 c2 c3 = y) (hm : rv2 c5 c6 = m) (hd : rv2 c8 c9 = d)
    (R : ∀ W, Calls Tryd.prog 15 #[.agg #[.int .i64 y, .int .i64 m, .int .i64 d]] W fun e w' => e = .returned (.bool true) ∧ Gr W w')
    (T : ∀ W, Calls Tryd.prog 21 #[.agg #[.int .i64 y, .int .i64 m, .int .i64 d]] W fun e w' => e = .returned (.string ⟨#[t0, t1, t2, t3, t4, t5, t6, t7, t8, t9]⟩) ∧ Gr W w') :
    Calls Tryd.prog 26 #[.string ⟨#[c0, c1, c2, c3, c4, c5, c6, c7, c8, c9]⟩] w fun e w' => e = .returned (if [t0, t1, t2, t3, t4, t5, t6, t7, t8, t9] = [c0, c1, c2, c3, c4, c5, c6, c7, c8, c9] then .tuple #[.agg #[.int .i64 y, .int .i64 m, .int .i64 d], .int .i64 0] else .tuple #[.agg #[.int .i64 0, .int .i64 0, .int .i64 0], .int .i64 31]) ∧ Gr w w' := by
  have X : ∀ c W, Calls Tryd.prog 32 #[.int .u8 (c.toNat : Int)] W fun e w' => e = .returned (.int .i64 (digF c)) ∧ w' = W := fun c W => (rdigit_any c W).mono fun _ _ ⟨h, k⟩ => ⟨h, k.symm⟩
  have hy' := Lib.hid (show 1000 * digF c0 + 100 * digF c1 + 10 * digF c2 + digF c3 = y from hy)
  have hm' := Lib.hid (show 10 * digF c5 + digF c6 = m from hm)
  have hd' := Lib.hid (show 10 * digF c8 + digF c9 = d from hd)
  have b0 := digF_bd c0
  have b1 := digF_bd c1
  have b2 := digF_bd c2
  have b3 := digF_bd c3
  have b5 := digF_bd c5
  have b6 := digF_bd c6
  have b8 := digF_bd c8
  have b9 := digF_bd c9
  have HR := Lib.hid R
  have HT := Lib.hid T
  clear R T
  obtain ⟨out, hout⟩ : ∃ out : Value, out = if [t0, t1, t2, t3, t4, t5, t6, t7, t8, t9] = [c0, c1, c2, c3, c4, c5, c6, c7, c8, c9] then .tuple #[.agg #[.int .i64 y, .int .i64 m, .int .i64 d], .int .i64 0] else .tuple #[.agg #[.int .i64 0, .int .i64 0, .int .i64 0], .int .i64 31] := ⟨_, rfl⟩
  rw [← hout]
  have HOUT := Lib.hid hout
  clear hout
  have g0 : (⟨#[c0, c1, c2, c3, c4, c5, c6, c7, c8, c9]⟩ : ByteArray)[0]'(by show 0 < 10; omega) = c0 := rfl
  have g1 : (⟨#[c0, c1, c2, c3, c4, c5, c6, c7, c8, c9]⟩ : ByteArray)[1]'(by show 1 < 10; omega) = c1 := rfl
  have g2 : (⟨#[c0, c1, c2, c3, c4, c5, c6, c7, c8, c9]⟩ : ByteArray)[2]'(by show 2 < 10; omega) = c2 := rfl
  have g3 : (⟨#[c0, c1, c2, c3, c4, c5, c6, c7, c8, c9]⟩ : ByteArray)[3]'(by show 3 < 10; omega) = c3 := rfl
  have g5 : (⟨#[c0, c1, c2, c3, c4, c5, c6, c7, c8, c9]⟩ : ByteArray)[5]'(by show 5 < 10; omega) = c5 := rfl
  have g6 : (⟨#[c0, c1, c2, c3, c4, c5, c6, c7, c8, c9]⟩ : ByteArray)[6]'(by show 6 < 10; omega) = c6 := rfl
  have g8 : (⟨#[c0, c1, c2, c3, c4, c5, c6, c7, c8, c9]⟩ : ByteArray)[8]'(by show 8 < 10; omega) = c8 := rfl
  have g9 : (⟨#[c0, c1, c2, c3, c4, c5, c6, c7, c8, c9]⟩ : ByteArray)[9]'(by show 9 < 10; omega) = c9 := rfl
  clear hy hm hd
  go_enter Tryd.func26, Tryd.ntmps26
  go_wp2_with fail
  refine wp_region_still_tail 18 mixedT (by kernel_rfl) ?_
  simp only [List.take_succ_cons, List.take_zero, List.drop_succ_cons, List.drop_zero]
  repeat (first | still_step | still_call (X _ _))
  refine wpStill_nil ?_
  change wpList _ _ _ _ _ ((w.alloc (Obj.cells #[Value.int IntKind.i64 0, Value.int IntKind.i64 0, Value.int IntKind.i64 0] 23)).alloc (Obj.cells #[Value.int IntKind.i64 0, Value.int IntKind.i64 0, Value.int IntKind.i64 0] 23)).drew
  go_wp2_with fail
  refine wp_region_still_tail 8 mixedT (by kernel_rfl) ?_
  simp only [List.take_succ_cons, List.take_zero, List.drop_succ_cons, List.drop_zero]
  repeat (first | still_step | still_call (X _ _))
  refine wpStill_nil ?_
  change wpList _ _ _ _ _ ((w.alloc (Obj.cells #[Value.int IntKind.i64 0, Value.int IntKind.i64 0, Value.int IntKind.i64 0] 23)).alloc (Obj.cells #[Value.int IntKind.i64 (1000 * digF c0 + 100 * digF c1 + 10 * digF c2 + digF c3), Value.int IntKind.i64 0, Value.int IntKind.i64 0] 23)).drew.drew
  go_wp2_with fail
  refine wp_region_still_tail 8 mixedT (by kernel_rfl) ?_
  simp only [List.take_succ_cons, List.take_zero, List.drop_succ_cons, List.drop_zero]
  repeat (first | still_step | still_call (X _ _))
  refine wpStill_nil ?_
  change wpList _ _ _ _ _ ((w.alloc (Obj.cells #[Value.int IntKind.i64 0, Value.int IntKind.i64 0, Value.int IntKind.i64 0] 23)).alloc (Obj.cells #[Value.int IntKind.i64 (1000 * digF c0 + 100 * digF c1 + 10 * digF c2 + digF c3), Value.int IntKind.i64 (10 * digF c5 + digF c6), Value.int IntKind.i64 0] 23)).drew.drew.drew
  go_wp2_with fail
  simp only [hy'.out, hm'.out, hd'.out]
  clear X b0 b1 b2 b3 b5 b6 b8 b9 hy' hm' hd' g0 g1 g2 g3 g5 g6 g8 g9
  have HP := Lib.hid (two_facts w y m d)
  obtain ⟨z0, z1, z2, r0, r1, r2, k0, k1, k2, sz⟩ := HP.out _ (((Gr.refl (((w.alloc (Obj.cells #[Value.int IntKind.i64 0, Value.int IntKind.i64 0, Value.int IntKind.i64 0] 23)).alloc (Obj.cells #[Value.int IntKind.i64 y, Value.int IntKind.i64 m, Value.int IntKind.i64 d] 23)).drew)).drew).drew)
  have HQ := Lib.hid (show ∀ w', Gr ((((w.alloc (Obj.cells #[Value.int IntKind.i64 0, Value.int IntKind.i64 0, Value.int IntKind.i64 0] 23)).alloc (Obj.cells #[Value.int IntKind.i64 y, Value.int IntKind.i64 m, Value.int IntKind.i64 d] 23)).drew).drew.drew) w' → Gr (((w.alloc (Obj.cells #[Value.int IntKind.i64 0, Value.int IntKind.i64 0, Value.int IntKind.i64 0] 23)).alloc (Obj.cells #[Value.int IntKind.i64 y, Value.int IntKind.i64 m, Value.int IntKind.i64 d] 23)).drew) w' from fun w' h => (((Gr.refl (((w.alloc (Obj.cells #[Value.int IntKind.i64 0, Value.int IntKind.i64 0, Value.int IntKind.i64 0] 23)).alloc (Obj.cells #[Value.int IntKind.i64 y, Value.int IntKind.i64 m, Value.int IntKind.i64 d] 23)).drew)).drew).drew).trans h)
  have HG := Lib.hid (show Gr w ((((w.alloc (Obj.cells #[Value.int IntKind.i64 0, Value.int IntKind.i64 0, Value.int IntKind.i64 0] 23)).alloc (Obj.cells #[Value.int IntKind.i64 y, Value.int IntKind.i64 m, Value.int IntKind.i64 d] 23)).drew).drew.drew) from (((((Gr.refl w).alloc _).alloc _).drew).drew).drew)
  generalize ((((w.alloc (Obj.cells #[Value.int IntKind.i64 0, Value.int IntKind.i64 0, Value.int IntKind.i64 0] 23)).alloc (Obj.cells #[Value.int IntKind.i64 y, Value.int IntKind.i64 m, Value.int IntKind.i64 d] 23)).drew).drew.drew) = W at *
  refine (HR.out _).mono ?_
  rintro e w6 ⟨rfl, hg6⟩
  clear z0 z1 z2 r0 r1 r2 k0 k1 k2 sz
  obtain ⟨z0, z1, z2, r0, r1, r2, k0, k1, k2, sz⟩ := HP.out _ (HQ.out _ hg6)
  have HQ6 := Lib.hid (HQ.out _ hg6)
  have HG6 := Lib.hid (HG.out.trans hg6)
  clear hg6 HQ HR HG
  go_wp2_with fail
  refine (HT.out _).mono ?_
  rintro e w7 ⟨rfl, hg7⟩
  clear z0 z1 z2 r0 r1 r2 k0 k1 k2 sz
  obtain ⟨z0, z1, z2, r0, r1, r2, k0, k1, k2, sz⟩ := HP.out _ (HQ6.out.trans hg7)
  have HGe := Lib.hid (HG6.out.trans hg7)
  have hout := HOUT.out
  clear hg7 HP HQ6 HG6 HT HOUT
  by_cases htx : [t0, t1, t2, t3, t4, t5, t6, t7, t8, t9] = [c0, c1, c2, c3, c4, c5, c6, c7, c8, c9]
  · rw [if_pos htx] at hout
    have htx2 := htx
    simp only [List.cons.injEq, and_true] at htx2
    obtain ⟨rfl, rfl, rfl, rfl, rfl, rfl, rfl, rfl, rfl, rfl⟩ := htx2
    clear htx
    subst hout
    go_wp2
    refine bodyPost_ret (v := .tuple #[.agg #[.int .i64 y, .int .i64 m, .int .i64 d], .int .i64 0]) (by simp [results, Tryd.results26, go_sem, *]) rfl ⟨rfl, ?_⟩
    repeat' (first | (with_reducible exact HGe.out) | (with_reducible refine Gr.setCell ?_ ?_ _) | (simp; done))
  · rw [if_neg htx] at hout
    subst hout
    have hne : ([t0, t1, t2, t3, t4, t5, t6, t7, t8, t9] == [c0, c1, c2, c3, c4, c5, c6, c7, c8, c9]) = false := by
      rw [beq_eq_false_iff_ne]
      exact htx
    clear htx
    go_wp2
    refine bodyPost_ret (v := .tuple #[.agg #[.int .i64 0, .int .i64 0, .int .i64 0], .int .i64 31]) (by simp [results, Tryd.results26, go_sem, *]) rfl ⟨rfl, ?_⟩
    repeat' (first | (with_reducible exact HGe.out) | (with_reducible refine Gr.setCell ?_ ?_ _) | (simp; done))

theorem rparse_yes {y m d : Int} (w : World) (hr : rightP y m d) : Calls Tryd.prog 26 #[.string (textB y m d)] w fun e w' => e = .returned (.tuple #[.agg #[.int .i64 y, .int .i64 m, .int .i64 d], .int .i64 0]) ∧ Gr w w' := by
  obtain ⟨k1, k2, k3⟩ := rtext_val hr
  have hy : I y := ⟨by have := hr.1; omega, by have := hr.2.1; omega⟩
  have h := rparse_y (dgB (y / 10 / 10 / 10)) (dgB (y / 10 / 10)) (dgB (y / 10)) (dgB y) 45 (dgB (m / 10)) (dgB m) 45 (dgB (d / 10)) (dgB d) (dgB (y / 10 / 10 / 10)) (dgB (y / 10 / 10)) (dgB (y / 10)) (dgB y) 45 (dgB (m / 10)) (dgB m) 45 (dgB (d / 10)) (dgB d) y m d w k1 k2 k3 (fun W => rright_yes W hy hr) (fun W => rtext_yes y m d W hr)
  rw [if_pos rfl] at h
  exact h
theorem rv4_I (a b c d : UInt8) : I (rv4 a b c d) := by
  have h0 := digF_bd a
  have h1 := digF_bd b
  have h2 := digF_bd c
  have h3 := digF_bd d
  unfold I rv4
  omega
theorem rparse_no (s : ByteArray) (w : World) (h : ∀ y m d, rightP y m d → textB y m d ≠ s) : Calls Tryd.prog 26 #[.string s] w fun e w' => e = .returned (.tuple #[.agg #[.int .i64 0, .int .i64 0, .int .i64 0], .int .i64 31]) ∧ Gr w w' := by
  by_cases hs : s.size = 10
  · obtain ⟨c0, c1, c2, c3, c4, c5, c6, c7, c8, c9, rfl⟩ := ten_bytes s hs
    by_cases hr : rightP (rv4 c0 c1 c2 c3) (rv2 c5 c6) (rv2 c8 c9)
    · have k := rparse_y c0 c1 c2 c3 c4 c5 c6 c7 c8 c9 _ _ _ _ _ _ _ _ _ _ _ _ _ w rfl rfl rfl (fun W => rright_yes W (rv4_I _ _ _ _) hr) (fun W => rtext_yes _ _ _ W hr)
      rw [if_neg] at k
      · exact k
      · intro he
        exact h _ _ _ hr (by unfold textB; rw [show ∀ a b : List UInt8, a = b → (⟨a.toArray⟩ : ByteArray) = ⟨b.toArray⟩ from fun a b e => by rw [e]] ; exact he)
    · exact rparse_x c0 c1 c2 c3 c4 c5 c6 c7 c8 c9 _ _ _ w rfl rfl rfl (fun W => rright_no W (rv4_I _ _ _ _) hr)
  · exact rparse_short s w hs
end Go.Proofs.YtfifollmpohcoaaDoor
