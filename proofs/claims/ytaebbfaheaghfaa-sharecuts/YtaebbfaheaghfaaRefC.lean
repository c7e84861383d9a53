/- The contracts of falseworkref01, third part: Of, Plus, Neg. -/
import Derived.Test.YtaebbfaheaghfaaRefB
namespace Go.Proofs.Ytaebbfaheaghfaa
open Go.RowKit

/-- a sign and the digits of x -/
abbrev Nm (m : Bool) (x : Int) : Value := .agg #[.bool m, .int .u64 (dgt x 0), .int .u64 (dgt x 1), .int .u64 (dgt x 2), .int .u64 (dgt x 3), .int .u64 (dgt x 4), .int .u64 (dgt x 5), .int .u64 (dgt x 6), .int .u64 (dgt x 7), .int .u64 (dgt x 8), .int .u64 (dgt x 9)]
/-- the number n -/
abbrev V (n : Int) : Value := Nm (neg? n) (absI n)

theorem neg_neg {n : Int} (h : n < 0) : neg? n = true := by unfold neg?; simpa using h
theorem neg_pos {n : Int} (h : 0 ≤ n) : neg? n = false := by unfold neg?; simp; omega
theorem abs_neg {n : Int} (h : n < 0) : absI n = -n := by unfold absI; rw [if_pos h]
theorem abs_pos {n : Int} (h : 0 ≤ n) : absI n = n := by unfold absI; rw [if_neg (by omega)]
theorem abs_nn (n : Int) : 0 ≤ absI n := by unfold absI; split <;> omega

/-- a world with some blocks more -/
def grew (w : World) (L : List Obj) : World := L.foldl World.alloc w
theorem grew_cons (w : World) (X : Obj) (L : List Obj) : grew w (X :: L) = grew (w.alloc X) L := rfl
theorem grew_size (w : World) (L : List Obj) : (grew w L).heap.size = w.heap.size + L.length := by
  induction L generalizing w with
  | nil => rfl
  | cons X L ih => rw [grew_cons, ih]; simp; omega
@[go_sem] theorem lt_grew (w : World) (L : List Obj) (b : Nat) (h : b < w.heap.size) : (b < (grew w L).heap.size) = True := by
  rw [grew_size]
  exact eq_true (by omega)
@[go_sem] theorem le_grew (w : World) (L : List Obj) (b : Nat) (h : b ≤ w.heap.size) : (b ≤ (grew w L).heap.size) = True := by
  rw [grew_size]
  exact eq_true (by omega)
@[go_sem] theorem le_grew1 (w : World) (L : List Obj) (b : Nat) (h : b ≤ w.heap.size) : (b ≤ (grew w L).heap.size + 1) = True := by
  rw [grew_size]
  exact eq_true (by omega)
@[go_sem] theorem le_grew2 (w : World) (L : List Obj) (b : Nat) (h : b ≤ w.heap.size) : (b ≤ (grew w L).heap.size + 1 + 1) = True := by
  rw [grew_size]
  exact eq_true (by omega)
@[go_sem] theorem grew_cell (w : World) (L : List Obj) (b o : Nat) (h : b < w.heap.size) : (grew w L).cell? ⟨b, o, none⟩ = w.cell? ⟨b, o, none⟩ := by
  induction L generalizing w with
  | nil => rfl
  | cons X L ih => rw [grew_cons, ih _ (by simp; omega), World.cell?_alloc_lt w X ⟨b, o, none⟩ h]
@[go_sem] theorem grew_frozen (w : World) (L : List Obj) (b o : Nat) (h : b < w.heap.size) : (grew w L).frozen? ⟨b, o, none⟩ = w.frozen? ⟨b, o, none⟩ := by
  induction L generalizing w with
  | nil => rfl
  | cons X L ih =>
    rw [grew_cons, ih _ (by simp; omega)]
    exact ((Below.refl _ w).alloc (Nat.le_refl _) X).frozen (p := ⟨b, o, none⟩) h
@[go_sem] theorem grew_setCell (w : World) (L : List Obj) (b o : Nat) (v : Value) (h : b < w.heap.size) : (grew w L).setCell ⟨b, o, none⟩ v = grew (w.setCell ⟨b, o, none⟩ v) L := by
  induction L generalizing w with
  | nil => rfl
  | cons X L ih => rw [grew_cons, ih _ (by simp; omega), World.setCell_alloc_past X b o v h]; rfl
@[go_sem] theorem grew_drew (w : World) (L : List Obj) : grew w.drew L = (grew w L).drew := by
  induction L generalizing w with
  | nil => rfl
  | cons X L ih => exact ih (w.alloc X)
@[go_sem] theorem grew_drewN (w : World) (L : List Obj) (n : Nat) : grew (w.drewN n) L = (grew w L).drewN n := by
  induction L generalizing w with
  | nil => rfl
  | cons X L ih => exact ih (w.alloc X)
theorem grew_below (w : World) (L : List Obj) : Below w.heap.size w (grew w L) := by
  induction L generalizing w with
  | nil => exact Below.refl _ _
  | cons X L ih => exact ((Below.refl _ _).alloc (Nat.le_refl _) X).trans ((ih (w.alloc X)).mono (by simp))
theorem grew_more (w : World) (L K : List Obj) : grew (grew w L) K = grew w (L ++ K) := by unfold grew; rw [List.foldl_append]
/-- what a call that makes blocks, and draws, leaves -/
def Made (w w' : World) : Prop := ∃ L n, w' = (grew w L).drewN n
theorem Made.below {w w' : World} (h : Made w w') : Below w.heap.size w w' := by
  obtain ⟨L, n, rfl⟩ := h
  exact below_drewN (grew_below w L) n
theorem Made.refl (w : World) : Made w w := ⟨[], 0, rfl⟩
theorem Made.alloc {w w' : World} (h : Made w w') (X : Obj) : Made w (w'.alloc X) := by
  obtain ⟨L, n, rfl⟩ := h
  exact ⟨L ++ [X], n, by rw [← grew_more]; rfl⟩
theorem Made.drewN {w w' : World} (h : Made w w') (k : Nat) : Made w (w'.drewN k) := by
  obtain ⟨L, n, rfl⟩ := h
  exact ⟨L, n + k, by rw [World.drewN_drewN]⟩
theorem Made.drew {w w' : World} (h : Made w w') : Made w w'.drew := h.drewN 1
theorem Made.trans {w w1 w2 : World} (h : Made w w1) (k : Made w1 w2) : Made w w2 := by
  obtain ⟨L, n, rfl⟩ := h
  obtain ⟨K, m, rfl⟩ := k
  exact ⟨L ++ K, n + m, by rw [grew_drewN, World.drewN_drewN, grew_more]⟩
theorem Made.grew {w w' : World} (h : Made w w') (K : List Obj) : Made w (grew w' K) := h.trans ⟨K, 0, rfl⟩

theorem ret_num {m k : Bool} {x0 x1 x2 x3 x4 x5 x6 x7 x8 x9 : Int} {n : Int} (hm : m = k) (h : x0 = dgt n 0 ∧ x1 = dgt n 1 ∧ x2 = dgt n 2 ∧ x3 = dgt n 3 ∧ x4 = dgt n 4 ∧ x5 = dgt n 5 ∧ x6 = dgt n 6 ∧ x7 = dgt n 7 ∧ x8 = dgt n 8 ∧ x9 = dgt n 9) : Ending.returned (.agg #[.bool m, .int .u64 (x0), .int .u64 (x1), .int .u64 (x2), .int .u64 (x3), .int .u64 (x4), .int .u64 (x5), .int .u64 (x6), .int .u64 (x7), .int .u64 (x8), .int .u64 (x9)]) = .returned (Nm k n) := by
  subst hm
  obtain ⟨rfl, rfl, rfl, rfl, rfl, rfl, rfl, rfl, rfl, rfl⟩ := h
  rfl

set_option maxHeartbeats 4000000 in
theorem of_pos (a : Int) (w : World) (a0 : 0 ≤ a) (a1 : a ≤ 9223372036854775807) :
    Calls Try.prog 15 #[.int .i64 a] w fun e w' => e = .returned (Nm false a) ∧ ∃ X Y, w' = (w.alloc X).alloc Y := by
  have hd : decide (a < 0) = false := by simp only [decide_eq_false_iff_not]; omega
  go_enter Try.func15, Try.ntmps15
  go_wp2
  refine wp_loop_rounds 5 ?_
  iterate 4 (rw [rounds_succ]; go_wp2)
  rw [rounds_succ]
  go_wp2
  refine bodyPost_ret (v := .agg #[.bool false, .int .u64 (a % 65536), .int .u64 (a / 65536 % 65536), .int .u64 (a / 65536 / 65536 % 65536), .int .u64 (a / 65536 / 65536 / 65536 % 65536), .int .u64 (0), .int .u64 (0), .int .u64 (0), .int .u64 (0), .int .u64 (0), .int .u64 (0)]) (by simp [results, Try.results15, go_sem]) rfl ⟨?_, _, _, rfl⟩
  refine ret_num rfl (dgt_uniq _ _ _ _ _ _ _ _ _ _ _ ?_ ?_ ?_ ?_ ?_ ?_ ?_ ?_ ?_ ?_ ?_) <;> omega

theorem neg_tmod (b : Int) (h : 0 ≤ b) : (-b).tmod 65536 = -(b % 65536) := by rw [Int.neg_tmod, Int.tmod_eq_emod_of_nonneg h]
theorem neg_tdiv (b : Int) (h : 0 ≤ b) : (-b).tdiv 65536 = -(b / 65536) := by rw [Int.neg_tdiv, Int.tdiv_eq_ediv_of_nonneg h]

set_option maxHeartbeats 4000000 in
theorem of_neg (b : Int) (w : World) (a0 : 0 < b) (a1 : b ≤ 9223372036854775808) :
    Calls Try.prog 15 #[.int .i64 (-b)] w fun e w' => e = .returned (Nm true b) ∧ ∃ X Y, w' = (w.alloc X).alloc Y := by
  have hd : decide (-b < 0) = true := by simp only [decide_eq_true_eq]; omega
  go_enter Try.func15, Try.ntmps15
  go_wp2
  refine wp_loop_rounds 5 ?_
  rw [rounds_succ]
  have m0 := neg_tmod (b) (by omega)
  have v0 := neg_tdiv (b) (by omega)
  go_upto_if 16 with (fail)
  go_cut [5] (fun s wx => s = .int .i64 (b % 65536) ∧ wx = ((w.alloc (.cells #[.bool false, .int .u64 0, .int .u64 0, .int .u64 0, .int .u64 0, .int .u64 0, .int .u64 0, .int .u64 0, .int .u64 0, .int .u64 0, .int .u64 0] 31)).alloc (.cells #[.bool true, .int .u64 0, .int .u64 0, .int .u64 0, .int .u64 0, .int .u64 0, .int .u64 0, .int .u64 0, .int .u64 0, .int .u64 0, .int .u64 0] 31)))
  case first =>
    by_cases hz : b % 65536 = 0
    · have d1 : decide ((-(b)).tmod 65536 < 0) = false := by rw [m0]; simp only [decide_eq_false_iff_not]; omega
      go_wp2
      go_meet
      exact ⟨by rw [hz]; rfl, rfl⟩
    · have d1 : decide ((-(b)).tmod 65536 < 0) = true := by rw [m0]; simp only [decide_eq_true_eq]; omega
      go_wp2
      go_meet
      exact ⟨rfl, rfl⟩
  case rest =>
  obtain ⟨rfl, rfl⟩ := hcut
  clear m0
  go_wp2
  clear v0
  rw [rounds_succ]
  have m1 := neg_tmod (b / 65536) (by omega)
  have v1 := neg_tdiv (b / 65536) (by omega)
  go_upto_if 16 with (fail)
  go_cut [5] (fun s wx => s = .int .i64 (b / 65536 % 65536) ∧ wx = ((w.alloc (.cells #[.bool false, .int .u64 0, .int .u64 0, .int .u64 0, .int .u64 0, .int .u64 0, .int .u64 0, .int .u64 0, .int .u64 0, .int .u64 0, .int .u64 0] 31)).alloc (.cells #[.bool true, .int .u64 (b % 65536), .int .u64 0, .int .u64 0, .int .u64 0, .int .u64 0, .int .u64 0, .int .u64 0, .int .u64 0, .int .u64 0, .int .u64 0] 31)))
  case first =>
    by_cases hz : b / 65536 % 65536 = 0
    · have d1 : decide ((-(b / 65536)).tmod 65536 < 0) = false := by rw [m1]; simp only [decide_eq_false_iff_not]; omega
      go_wp2
      go_meet
      exact ⟨by rw [hz]; rfl, rfl⟩
    · have d1 : decide ((-(b / 65536)).tmod 65536 < 0) = true := by rw [m1]; simp only [decide_eq_true_eq]; omega
      go_wp2
      go_meet
      exact ⟨rfl, rfl⟩
  case rest =>
  obtain ⟨rfl, rfl⟩ := hcut
  clear m1
  go_wp2
  clear v1
  rw [rounds_succ]
  have m2 := neg_tmod (b / 65536 / 65536) (by omega)
  have v2 := neg_tdiv (b / 65536 / 65536) (by omega)
  go_upto_if 16 with (fail)
  go_cut [5] (fun s wx => s = .int .i64 (b / 65536 / 65536 % 65536) ∧ wx = ((w.alloc (.cells #[.bool false, .int .u64 0, .int .u64 0, .int .u64 0, .int .u64 0, .int .u64 0, .int .u64 0, .int .u64 0, .int .u64 0, .int .u64 0, .int .u64 0] 31)).alloc (.cells #[.bool true, .int .u64 (b % 65536), .int .u64 (b / 65536 % 65536), .int .u64 0, .int .u64 0, .int .u64 0, .int .u64 0, .int .u64 0, .int .u64 0, .int .u64 0, .int .u64 0] 31)))
  case first =>
    by_cases hz : b / 65536 / 65536 % 65536 = 0
    · have d1 : decide ((-(b / 65536 / 65536)).tmod 65536 < 0) = false := by rw [m2]; simp only [decide_eq_false_iff_not]; omega
      go_wp2
      go_meet
      exact ⟨by rw [hz]; rfl, rfl⟩
    · have d1 : decide ((-(b / 65536 / 65536)).tmod 65536 < 0) = true := by rw [m2]; simp only [decide_eq_true_eq]; omega
      go_wp2
      go_meet
      exact ⟨rfl, rfl⟩
  case rest =>
  obtain ⟨rfl, rfl⟩ := hcut
  clear m2
  go_wp2
  clear v2
  rw [rounds_succ]
  have m3 := neg_tmod (b / 65536 / 65536 / 65536) (by omega)
  have v3 := neg_tdiv (b / 65536 / 65536 / 65536) (by omega)
  go_upto_if 16 with (fail)
  go_cut [5] (fun s wx => s = .int .i64 (b / 65536 / 65536 / 65536 % 65536) ∧ wx = ((w.alloc (.cells #[.bool false, .int .u64 0, .int .u64 0, .int .u64 0, .int .u64 0, .int .u64 0, .int .u64 0, .int .u64 0, .int .u64 0, .int .u64 0, .int .u64 0] 31)).alloc (.cells #[.bool true, .int .u64 (b % 65536), .int .u64 (b / 65536 % 65536), .int .u64 (b / 65536 / 65536 % 65536), .int .u64 0, .int .u64 0, .int .u64 0, .int .u64 0, .int .u64 0, .int .u64 0, .int .u64 0] 31)))
  case first =>
    by_cases hz : b / 65536 / 65536 / 65536 % 65536 = 0
    · have d1 : decide ((-(b / 65536 / 65536 / 65536)).tmod 65536 < 0) = false := by rw [m3]; simp only [decide_eq_false_iff_not]; omega
      go_wp2
      go_meet
      exact ⟨by rw [hz]; rfl, rfl⟩
    · have d1 : decide ((-(b / 65536 / 65536 / 65536)).tmod 65536 < 0) = true := by rw [m3]; simp only [decide_eq_true_eq]; omega
      go_wp2
      go_meet
      exact ⟨rfl, rfl⟩
  case rest =>
  obtain ⟨rfl, rfl⟩ := hcut
  clear m3
  go_wp2
  clear v3
  rw [rounds_succ]
  go_wp2
  refine bodyPost_ret (v := .agg #[.bool true, .int .u64 (b % 65536), .int .u64 (b / 65536 % 65536), .int .u64 (b / 65536 / 65536 % 65536), .int .u64 (b / 65536 / 65536 / 65536 % 65536), .int .u64 (0), .int .u64 (0), .int .u64 (0), .int .u64 (0), .int .u64 (0), .int .u64 (0)]) (by simp [results, Try.results15, go_sem]) rfl ⟨?_, _, _, rfl⟩
  refine ret_num rfl (dgt_uniq _ _ _ _ _ _ _ _ _ _ _ ?_ ?_ ?_ ?_ ?_ ?_ ?_ ?_ ?_ ?_ ?_) <;> omega

theorem of_any (a : Int) (w : World) (h : I a) :
    Calls Try.prog 15 #[.int .i64 a] w fun e w' => e = .returned (V a) ∧ ∃ X Y, w' = (w.alloc X).alloc Y := by
  obtain ⟨h1, h2⟩ := h
  by_cases hs : a < 0
  · have e : a = -(-a) := by omega
    have r1 := neg_neg hs
    have r2 := abs_neg hs
    have := of_neg (-a) w (by omega) (by omega)
    rw [← e] at this
    show Calls Try.prog 15 #[.int .i64 a] w fun e w' => e = .returned (Nm (neg? a) (absI a)) ∧ ∃ X Y, w' = (w.alloc X).alloc Y
    rw [r1, r2]
    exact this
  · have r1 := neg_pos (show 0 ≤ a by omega)
    have r2 := abs_pos (show 0 ≤ a by omega)
    have := of_pos a w (by omega) h2
    show Calls Try.prog 15 #[.int .i64 a] w fun e w' => e = .returned (Nm (neg? a) (absI a)) ∧ ∃ X Y, w' = (w.alloc X).alloc Y
    rw [r1, r2]
    exact this

set_option maxHeartbeats 2000000 in
theorem eq_run (f : Nat → Int) (w : World) : (Op.equalIn 10000 29 (dig f) (dig fun _ => 0)).run Try.prog w = .ok (f 0 == 0 && f 1 == 0 && f 2 == 0 && f 3 == 0 && f 4 == 0 && f 5 == 0 && f 6 == 0 && f 7 == 0 && f 8 == 0 && f 9 == 0) w := by
  have u3 := Try.underlying28
  have a3 := Try.isAgg28
  have z3 := Try.sizeOf28
  rw [show (10000 : Nat) = 9999 + 1 from rfl, Op.equalIn]
  simp only [Sem.run_bind, run_underlying Try.underlying29, Result.andThen_ok]
  simp only [Std.Legacy.Range.forIn_eq_forIn_range', Std.Legacy.Range.size, Nat.sub_zero, Nat.add_sub_cancel, Nat.div_one, List.range'_succ, List.range'_zero, List.forIn_cons, List.forIn_nil]
  go_simp
  by_cases h0 : f 0 = 0
  case neg => simp [h0]
  by_cases h1 : f 1 = 0
  case neg => simp [h0, h1]
  by_cases h2 : f 2 = 0
  case neg => simp [h0, h1, h2]
  by_cases h3 : f 3 = 0
  case neg => simp [h0, h1, h2, h3]
  by_cases h4 : f 4 = 0
  case neg => simp [h0, h1, h2, h3, h4]
  by_cases h5 : f 5 = 0
  case neg => simp [h0, h1, h2, h3, h4, h5]
  by_cases h6 : f 6 = 0
  case neg => simp [h0, h1, h2, h3, h4, h5, h6]
  by_cases h7 : f 7 = 0
  case neg => simp [h0, h1, h2, h3, h4, h5, h6, h7]
  by_cases h8 : f 8 = 0
  case neg => simp [h0, h1, h2, h3, h4, h5, h6, h7, h8]
  by_cases h9 : f 9 = 0
  case neg => simp [h0, h1, h2, h3, h4, h5, h6, h7, h8, h9]
  simp [h0, h1, h2, h3, h4, h5, h6, h7, h8, h9]

theorem eq_D (x : Int) (h0 : 0 ≤ x) (h1 : x < 1461501637330902918203684832716283019655932542976) (w : World) : (Op.equalIn 10000 29 (D x) (dig fun _ => 0)).run Try.prog w = .ok (x == 0) w := by
  rw [eq_run]
  have hs := sum_dgt x h0 h1
  have b0 := dgt_bd x 0
  have b1 := dgt_bd x 1
  have b2 := dgt_bd x 2
  have b3 := dgt_bd x 3
  have b4 := dgt_bd x 4
  have b5 := dgt_bd x 5
  have b6 := dgt_bd x 6
  have b7 := dgt_bd x 7
  have b8 := dgt_bd x 8
  have b9 := dgt_bd x 9
  have : (dgt x 0 == 0 && dgt x 1 == 0 && dgt x 2 == 0 && dgt x 3 == 0 && dgt x 4 == 0 && dgt x 5 == 0 && dgt x 6 == 0 && dgt x 7 == 0 && dgt x 8 == 0 && dgt x 9 == 0) = (x == 0) := by
    rw [Bool.eq_iff_iff]
    simp only [Bool.and_eq_true, beq_iff_eq]
    generalize dgt x 0 = d0, dgt x 1 = d1, dgt x 2 = d2, dgt x 3 = d3, dgt x 4 = d4, dgt x 5 = d5, dgt x 6 = d6, dgt x 7 = d7, dgt x 8 = d8, dgt x 9 = d9 at *
    omega
  rw [this]

set_option maxHeartbeats 2000000 in
theorem neg_run (m : Bool) (x : Int) (w : World) (h0 : 0 ≤ x) (h1 : x < 1461501637330902918203684832716283019655932542976) :
    Calls Try.prog 16 #[Nm m x] w fun e w' => e = .returned (Nm (!m && !(x == 0)) x) ∧ ∃ X Y, w' = (w.alloc X).alloc Y := by
  have hz := eq_D x h0 h1
  cases m
  · go_enter Try.func16, Try.ntmps16
    go_wp2
    exact bodyPost_ret (v := Nm (!false && !(x == 0)) x) (by simp [results, Try.results16, go_sem]) rfl ⟨rfl, _, _, rfl⟩
  · go_enter Try.func16, Try.ntmps16
    go_wp2
    exact bodyPost_ret (v := Nm (!true && !(x == 0)) x) (by simp [results, Try.results16, go_sem]) rfl ⟨rfl, _, _, rfl⟩

theorem neg_any (n : Int) (w : World) (h : absI n < 1461501637330902918203684832716283019655932542976) :
    Calls Try.prog 16 #[V n] w fun e w' => e = .returned (V (-n)) ∧ ∃ X Y, w' = (w.alloc X).alloc Y := by
  refine (neg_run (neg? n) (absI n) w (abs_nn n) h).mono ?_
  rintro e w' ⟨rfl, hw⟩
  refine ⟨?_, hw⟩
  have e1 : absI (-n) = absI n := by unfold absI; split <;> split <;> omega
  have e2 : (!neg? n && !(absI n == 0)) = neg? (-n) := by
    rw [Bool.eq_iff_iff]
    unfold neg? absI
    simp only [Bool.and_eq_true, Bool.not_eq_true', decide_eq_true_eq, decide_eq_false_iff_not, beq_eq_false_iff_ne]
    split <;> omega
  show _ = Ending.returned (Nm (neg? (-n)) (absI (-n)))
  rw [e1, e2]

end Go.Proofs.Ytaebbfaheaghfaa
