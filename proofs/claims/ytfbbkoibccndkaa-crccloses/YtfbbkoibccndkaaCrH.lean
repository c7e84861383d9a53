/- Package crc: what a zero byte does. -/
import Derived.Test.YtfbbkoibccndkaaCrG
namespace Go.Proofs.Ytfbbkoibccndkaa
open Go.RowKit Go.Lib

/-- two arrays of one's own, the last one is written to -/
structure Sw (w wr : World) (n : Nat) (T : TypeId) (Z C : Array Value) : Prop where
  b : RowKit.Below n w wr
  z : wr.heap[n]? = some (.cells Z T)
  c : wr.heap[n + 1]? = some (.cells C T)
theorem Sw.below {w wr wx : World} {n : Nat} {T : TypeId} {Z C : Array Value} (h : Sw w wr n T Z C) (hb : RowKit.Below wr.heap.size wr wx) : Sw w wx n T Z C :=
  ⟨h.b.trans (hb.mono (Nat.le_of_lt (blk_lt h.z))), blk_below h.z hb, blk_below h.c hb⟩
theorem Sw.set {w wr : World} {n : Nat} {T : TypeId} {Z C C' : Array Value} (h : Sw w wr n T Z C) (k : Nat) (v : Value) (hc : C.setIfInBounds k v = C') : Sw w (wr.setCell ⟨n + 1, k, none⟩ v) n T Z C' := by
  subst hc
  exact ⟨h.b.setCell (by simp) v, by rw [heap_setCell_other _ _ _ _ (by simp)]; exact h.z, heap_setCell_same _ _ _ _ _ _ h.c⟩
theorem Sw.cell {w wr : World} {n : Nat} {T : TypeId} {Z C : Array Value} (h : Sw w wr n T Z C) (k : Nat) : wr.cell? ⟨n + 1, k, none⟩ = C[k]? ∧ wr.frozen? ⟨n + 1, k, none⟩ = false :=
  ⟨cell_of_row _ _ _ _ _ _ h.c, frozen_of_row _ _ _ _ _ h.c⟩
theorem Sw.lt {w wr : World} {n : Nat} {T : TypeId} {Z C : Array Value} (h : Sw w wr n T Z C) : n + 1 < wr.heap.size := blk_lt h.c

theorem pow_lt32 {k : Nat} (h : k < 32) : 2 ^ k < 4294967296 := by
  have := Nat.pow_lt_pow_right (show 1 < 2 by omega) h
  exact this
theorem pow_mod32 {k : Nat} (h : k < 32) : ((2 : Int) ^ k % 4294967296) = ((2 ^ k : Nat) : Int) := by
  rw [show (2 : Int) ^ k = ((2 ^ k : Nat) : Int) by simp]
  have := pow_lt32 h
  generalize 2 ^ k = p at *
  omega
set_option maxRecDepth 100000 in
set_option maxHeartbeats 800000 in
theorem zeroByte_any (w : World) : Calls Try.prog 24 #[] w fun e w' => e = .returned (.agg (mx fun i => zs 8 (2 ^ i))) ∧ RowKit.Below w.heap.size w w' := by
  obtain ⟨Z, hZ⟩ : ∃ Z, Z = tab .u32 fun _ => 0 := ⟨_, rfl⟩
  have az : Arr Z := by rw [hZ]; exact arr_tab _ _
  go_enter Try.func24, Try.ntmps24
  go_wp2_with (with_reducible refine wpList_alloc0 rfl isM rfl ?_)
  rw [← hZ]
  go_loopw [3] (fun c3 wr => ∃ k : Nat, c3 = .int .i64 (k : Int) ∧ k ≤ 32 ∧ Sw w wr w.heap.size 46 Z (tab .u32 fun j => if j < k then (zs 8 (2 ^ j) : Int) else 0)) (fun c7 _ => 32 - (match c7 with | .int _ q => q | _ => 0).toNat)
  case atStart => exact ⟨0, rfl, by omega, ⟨((RowKit.Below.refl _ _).alloc (Nat.le_refl _) _).alloc (by simp) _, blk_in (blkn (by simp)), by rw [hZ]; exact blkn (by simp)⟩⟩
  case round =>
    obtain ⟨k, rfl, hk, hS⟩ := hrel
    have HZ := Lib.hid hZ
    have HS := Lib.hid hS
    clear hZ hS
    by_cases hlt : k < 32
    · obtain ⟨c, c', v, hc, hc', hv, h1, h2⟩ := tab_step (k := .u32) (f := fun j => if j < k then (zs 8 (2 ^ j) : Int) else 0) (g := fun j => if j < k + 1 then (zs 8 (2 ^ j) : Int) else 0) hlt (x := (zs 8 (2 ^ k) : Int)) (fun j _ => by
        by_cases e : j = k
        · subst e; simp
        · simp only [if_neg e]; by_cases h : j < k
          · rw [if_pos h, if_pos (by omega)]
          · rw [if_neg h, if_neg (by omega)])
      rw [← hc] at HS
      have HC := Lib.hid hc'
      have H2 := Lib.hid h2
      clear hc hc' hv h2
      go_wp2_with fail
      have ep := pow_mod32 hlt
      rw [ep]
      have hal : RowKit.Below wr.heap.size wr (wr.alloc (.cells #[.int .u8 0] 5)) := (RowKit.Below.refl _ _).alloc (Nat.le_refl _) _
      refine (add_any (2 ^ k) _ [0] 1 1 _ (pow_lt32 hlt) (bat_new _ _ _ _ rfl) rfl (by omega)).mono ?_
      rintro _ _ ⟨rfl, rfl⟩
      rw [ad_zero]
      have HS1 := Lib.hid (HS.out.below hal)
      obtain ⟨q1, q2⟩ := HS.out.cell k
      have hl := HS.out.lt
      have q3 := q1.trans h1
      clear q1 hal ep
      go_wp2
      go_roundw
      case rel => exact ⟨k + 1, by go_num, by omega, by rw [← HC.out]; exact (HS.out.set k _ H2.out).below ((RowKit.Below.refl _ _).alloc (Nat.le_refl _) _)⟩
      case measure => simp; omega
    · have e : k = 32 := by omega
      subst e
      have hc : tab .u32 (fun j => if j < 32 then (zs 8 (2 ^ j) : Int) else 0) = mx (fun i => zs 8 (2 ^ i)) := tab_congr fun j hj => by simp [hj]
      rw [hc] at HS
      obtain ⟨c, hc'⟩ : ∃ c, c = mx (fun i => zs 8 (2 ^ i)) := ⟨_, rfl⟩
      rw [← hc'] at HS
      have ac : Arr c := by rw [hc']; exact arr_tab _ _
      have HC := Lib.hid hc'
      have k1 := HS.out.c
      have k2 := HS.out.z
      clear hc hc'
      go_wp2_with (first | (with_reducible refine wpList_load1 rfl isM _ rfl _ c rfl k1 ac ?_) | (with_reducible refine wpList_store1 rfl isM _ _ rfl _ c Z rfl rfl k2 ac az ?_))
      refine ret_arr isM Try.results24 rfl (setRow_heap _ _ _ _ _ _ k2) ac rfl ⟨by rw [HC.out], ?_⟩
      exact below_setRow HS.out.b (by omega)
end Go.Proofs.Ytfbbkoibccndkaa
