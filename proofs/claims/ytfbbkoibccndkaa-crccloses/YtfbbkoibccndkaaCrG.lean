/- Package crc: matrices. -/
import Derived.Test.YtfbbkoibccndkaaCrD
namespace Go.Proofs.Ytfbbkoibccndkaa
open Go.RowKit Go.Lib

/-- a matrix of 32 columns -/
def mx (m : Nat → Nat) : Array Value := tab .u32 fun i => (m i : Int)
theorem run_index_mx {M : Array Value} {i : Nat} {v : Value} (h : M[i]? = some v) (hi : i < 32) (w : World) : (Instr.index 46 (.agg M) (.int .i64 (i : Int))).run Try.prog w = .ok v w := by
  have e0 : (0 : Int) ≤ (i : Int) ∧ (i : Int) < ((32 : Nat) : Int) := by omega
  simp only [Instr.index, asIntOf, Sem.run_bind, Sem.run_pure, Result.andThen_ok, run_underlying Try.underlying46, if_pos e0, Try.sizeOf26, part, Try.isAgg26]
  simp [h]
set_option maxRecDepth 100000 in
set_option maxHeartbeats 800000 in
theorem times_any (m : Nat → Nat) (v : Nat) (w : World) (hm : ∀ i, m i < 4294967296) (hv : v < 4294967296) : Calls Try.prog 25 #[.agg (mx m), .int .u32 (v : Int)] w fun e w' => e = .returned (.int .u32 (tm m v 32 : Int)) ∧ RowKit.Below w.heap.size w w' := by
  obtain ⟨M, hM⟩ : ∃ M, M = mx m := ⟨_, rfl⟩
  rw [← hM]
  have ar : Arr M := by rw [hM]; exact arr_tab _ _
  have HG := Lib.hid (fun (i : Nat) (h : i < 32) (W : World) => run_index_mx (show M[i]? = some (.int .u32 (m i : Int)) by rw [hM]; exact tab_get _ _ h) h W)
  have HM := Lib.hid hm
  clear hM hm
  go_enter Try.func25, Try.ntmps25
  go_wp2_with (first | (with_reducible refine wpList_box0 rfl _ _ rfl _ rfl ?_) | (with_reducible refine wpList_load1 rfl isM _ rfl _ M rfl (blkn (by simp)) ar ?_))
  clear ar
  go_loop [5, 9] (fun c5 c9 => ∃ (k o : Nat), c9 = .int .i64 (k : Int) ∧ c5 = .int .u32 (o : Int) ∧ k ≤ 32 ∧ Hid (o = tm m v k)) (fun _ c9 => 32 - (match c9 with | .int _ q => q | _ => 0).toNat)
  case atStart => exact ⟨0, 0, rfl, rfl, by omega, rfl⟩
  case round =>
    obtain ⟨k, o, rfl, rfl, hk, HO⟩ := hrel
    by_cases hlt : k < 32
    · have hg := HG.out k hlt
      have he : bits .and .u32 ((v : Int) / 2 ^ k) 1 = ((v / 2 ^ k % 2 : Nat) : Int) := by
        rw [show (v : Int) / 2 ^ k = ((v / 2 ^ k : Nat) : Int) by simp]
        exact and1_32 _ (by have := Nat.div_le_self v (2 ^ k); omega)
      have ho : o < 4294967296 := by rw [HO.out]; exact tm_lt HM.out v k
      have hx := Lib.hid (u32_xor_nat o (m k) ho (HM.out k))
      by_cases hb : v / 2 ^ k % 2 = 1
      · have d1 : (bits .and .u32 ((v : Int) / 2 ^ k) 1 == 1) = true := by rw [he, hb]; rfl
        have HB := Lib.hid hb
        clear he hb
        go_wp2
        go_round
        case rel => exact ⟨k + 1, o ^^^ m k, by go_num, by rw [hx.out], by omega, by show _ = _; rw [tm, if_pos HB.out, ← HO.out]⟩
        case measure => simp; omega
      · have d1 : (bits .and .u32 ((v : Int) / 2 ^ k) 1 == 1) = false := by rw [he]; simp only [beq_eq_false_iff_ne, ne_eq]; omega
        have HB := Lib.hid hb
        clear he hb
        go_wp2
        go_round
        case rel => exact ⟨k + 1, o, by go_num, rfl, by omega, by show _ = _; rw [tm, if_neg HB.out, ← HO.out]⟩
        case measure => simp; omega
    · have e : k = 32 := by omega
      subst e
      go_wp2
      go_ret
      exact ⟨ret_int (by rw [HO.out]), (RowKit.Below.refl _ _).alloc (Nat.le_refl _) _⟩
/-- three arrays of one's own, the last one is written to -/
structure Sq (w wr : World) (n : Nat) (T : TypeId) (M Z C : Array Value) : Prop where
  b : RowKit.Below n w wr
  m : wr.heap[n]? = some (.cells M T)
  z : wr.heap[n + 1]? = some (.cells Z T)
  c : wr.heap[n + 1 + 1]? = some (.cells C T)
theorem Sq.below {w wr wx : World} {n : Nat} {T : TypeId} {M Z C : Array Value} (h : Sq w wr n T M Z C) (hb : RowKit.Below wr.heap.size wr wx) : Sq w wx n T M Z C :=
  ⟨h.b.trans (hb.mono (Nat.le_of_lt (blk_lt h.m))), blk_below h.m hb, blk_below h.z hb, blk_below h.c hb⟩
theorem Sq.set {w wr : World} {n : Nat} {T : TypeId} {M Z C C' : Array Value} (h : Sq w wr n T M Z C) (k : Nat) (v : Value) (hc : C.setIfInBounds k v = C') : Sq w (wr.setCell ⟨n + 1 + 1, k, none⟩ v) n T M Z C' := by
  subst hc
  exact ⟨h.b.setCell (by simp; omega) v, by rw [heap_setCell_other _ _ _ _ (by simp; omega)]; exact h.m, by rw [heap_setCell_other _ _ _ _ (by simp)]; exact h.z, heap_setCell_same _ _ _ _ _ _ h.c⟩
theorem Sq.cell {w wr : World} {n : Nat} {T : TypeId} {M Z C : Array Value} (h : Sq w wr n T M Z C) (k : Nat) : wr.cell? ⟨n + 1 + 1, k, none⟩ = C[k]? ∧ wr.frozen? ⟨n + 1 + 1, k, none⟩ = false :=
  ⟨cell_of_row _ _ _ _ _ _ h.c, frozen_of_row _ _ _ _ _ h.c⟩
set_option maxRecDepth 100000 in
set_option maxHeartbeats 800000 in
theorem squared_any (m : Nat → Nat) (w : World) (hm : ∀ i, m i < 4294967296) : Calls Try.prog 26 #[.agg (mx m)] w fun e w' => e = .returned (.agg (mx fun i => tm m (m i) 32)) ∧ RowKit.Below w.heap.size w w' := by
  have HT := Lib.hid (fun (i : Nat) (W : World) => times_any m (m i) W hm (hm i))
  obtain ⟨M, hM⟩ : ∃ M, M = mx m := ⟨_, rfl⟩
  rw [← hM] at HT
  rw [← hM]
  have ar : Arr M := by rw [hM]; exact arr_tab _ _
  have HG := Lib.hid (fun (i : Nat) (h : i < 32) (W : World) => run_index_mx (show M[i]? = some (.int .u32 (m i : Int)) by rw [hM]; exact tab_get _ _ h) h W)
  clear hM
  go_enter Try.func26, Try.ntmps26
  go_wp2_with (first | (with_reducible refine wpList_box0 rfl _ _ rfl _ rfl ?_) | (with_reducible refine wpList_alloc0 rfl isM rfl ?_) | (with_reducible refine wpList_load1 rfl isM _ rfl _ M rfl (blk_in (blk_in (blkn (by simp)))) ar ?_))
  obtain ⟨Z, hZ⟩ : ∃ Z, Z = tab .u32 fun _ => 0 := ⟨_, rfl⟩
  rw [← hZ]
  have az : Arr Z := by rw [hZ]; exact arr_tab _ _
  go_loopw [7] (fun c7 wr => ∃ k : Nat, c7 = .int .i64 (k : Int) ∧ k ≤ 32 ∧ Sq w wr w.heap.size 46 M Z (tab .u32 fun j => if j < k then (tm m (m j) 32 : Int) else 0)) (fun c7 _ => 32 - (match c7 with | .int _ q => q | _ => 0).toNat)
  case atStart => exact ⟨0, rfl, by omega, ⟨((RowKit.Below.refl _ _).alloc (Nat.le_refl _) _).alloc (by simp) _ |>.alloc (by simp; omega) _, blk_in (blk_in (blkn (by simp))), blk_in (blkn (by simp)), by rw [hZ]; exact blkn (by simp)⟩⟩
  case round =>
    obtain ⟨k, rfl, hk, hS⟩ := hrel
    have HZ := Lib.hid hZ
    have HS := Lib.hid hS
    clear hZ hS
    by_cases hlt : k < 32
    · obtain ⟨c, c', v, hc, hc', hv, h1, h2⟩ := tab_step (k := .u32) (f := fun j => if j < k then (tm m (m j) 32 : Int) else 0) (g := fun j => if j < k + 1 then (tm m (m j) 32 : Int) else 0) hlt (x := (tm m (m k) 32 : Int)) (fun j _ => by
        by_cases e : j = k
        · subst e; simp
        · simp only [if_neg e]; by_cases h : j < k
          · rw [if_pos h, if_pos (by omega)]
          · rw [if_neg h, if_neg (by omega)])
      rw [← hc] at HS
      have HC := Lib.hid hc'
      have H2 := Lib.hid h2
      have hg := HG.out k hlt
      clear hc hc' hv h2
      have hsz : wr.heap[w.heap.size]? = some (.cells M 46) := HS.out.m
      go_wp2_with (first | (with_reducible refine wpList_load1 rfl isM _ rfl _ M rfl hsz ar ?_) | fail)
      refine (HT.out k _).mono ?_
      rintro _ w1 ⟨rfl, hb1⟩
      have HS1 := Lib.hid (HS.out.below hb1)
      obtain ⟨q1, q2⟩ := HS1.out.cell k
      have q3 := q1.trans h1
      clear q1 hsz hb1
      go_wp2
      go_roundw
      case rel => exact ⟨k + 1, by go_num, by omega, by rw [← HC.out]; exact HS1.out.set k _ H2.out⟩
      case measure => simp; omega
    · have e : k = 32 := by omega
      subst e
      have hc : tab .u32 (fun j => if j < 32 then (tm m (m j) 32 : Int) else 0) = mx (fun i => tm m (m i) 32) := tab_congr fun j hj => by simp [hj]
      rw [hc] at HS
      obtain ⟨c, hc'⟩ : ∃ c, c = mx (fun i => tm m (m i) 32) := ⟨_, rfl⟩
      rw [← hc'] at HS
      have ac : Arr c := by rw [hc']; exact arr_tab _ _
      have HC := Lib.hid hc'
      have k1 := HS.out.c
      have k2 := HS.out.z
      clear hc hc'
      go_wp2_with (first | (with_reducible refine wpList_load1 rfl isM _ rfl _ c rfl k1 ac ?_) | (with_reducible refine wpList_store1 rfl isM _ _ rfl _ c Z rfl rfl k2 ac az ?_))
      refine ret_arr isM Try.results26 rfl (setRow_heap _ _ _ _ _ _ k2) ac rfl ⟨by rw [HC.out], ?_⟩
      exact below_setRow HS.out.b (by omega)
end Go.Proofs.Ytfbbkoibccndkaa
