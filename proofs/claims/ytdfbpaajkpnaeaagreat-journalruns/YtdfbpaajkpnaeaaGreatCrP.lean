/- Package crc: Open. -/
import Derived.Test.YtdfbpaajkpnaeaaGreatCrKO
import Derived.Test.YtdfbpaajkpnaeaaGreatHld
import Derived.Laws.Cover3
import Derived.IntWalk
import Derived.Deep.RegionWith
namespace Go.Proofs.YtdfbpaajkpnaeaaGreat
set_option maxRecDepth 100000
open Go.RowKit Go.Lib

set_option maxHeartbeats 2000000 in
theorem eq4 (x0 x1 x2 x3 y0 y1 y2 y3 : Int) (w : World) : (Op.equalIn 10000 137 (.agg #[.int .u8 x0, .int .u8 x1, .int .u8 x2, .int .u8 x3]) (.agg #[.int .u8 y0, .int .u8 y1, .int .u8 y2, .int .u8 y3])).run Tryz.prog w = .ok (x0 == y0 && x1 == y1 && x2 == y2 && x3 == y3) w := by
  have u3 := Tryz.underlying5
  have a3 := Tryz.isAgg5
  have z3 := Tryz.sizeOf5
  rw [show (10000 : Nat) = 9999 + 1 from rfl, Op.equalIn]
  simp only [Sem.run_bind, run_underlying Tryz.underlying137, Result.andThen_ok]
  simp only [Std.Legacy.Range.forIn_eq_forIn_range', Std.Legacy.Range.size, Nat.sub_zero, Nat.add_sub_cancel, Nat.div_one, List.range'_succ, List.range'_zero, List.forIn_cons, List.forIn_nil]
  go_simp
  by_cases h0 : x0 = y0
  case neg => simp [h0]
  by_cases h1 : x1 = y1
  case neg => simp [h0, h1]
  by_cases h2 : x2 = y2
  case neg => simp [h0, h1, h2]
  by_cases h3 : x3 = y3
  case neg => simp [h0, h1, h2, h3]
  simp [h0, h1, h2, h3]
theorem neq4 (x0 x1 x2 x3 y0 y1 y2 y3 : Int) (w : World) : (binOp .neq 137 (.agg #[.int .u8 x0, .int .u8 x1, .int .u8 x2, .int .u8 x3]) (.agg #[.int .u8 y0, .int .u8 y1, .int .u8 y2, .int .u8 y3])).run Tryz.prog w = .ok (.bool (!(x0 == y0 && x1 == y1 && x2 == y2 && x3 == y3))) w := by
  have e := eq4 x0 x1 x2 x3 y0 y1 y2 y3
  go_simp
theorem get_at (i l : List UInt8) (j : Nat) : (i ++ l).getD (i.length + j) 0 = l.getD j 0 := by
  simp [List.getD, List.getElem?_append_right]
theorem cells4 {W : World} {b off : Nat} {i : List UInt8} {x0 x1 x2 x3 : UInt8} (h : BAt W (some ⟨b, off, none⟩) (i ++ [x0, x1, x2, x3])) : W.cell? ⟨b, off + i.length, none⟩ = some (.int .u8 (x0.toNat : Int)) ∧ W.cell? ⟨b, off + i.length + 1, none⟩ = some (.int .u8 (x1.toNat : Int)) ∧ W.cell? ⟨b, off + i.length + 2, none⟩ = some (.int .u8 (x2.toNat : Int)) ∧ W.cell? ⟨b, off + i.length + 3, none⟩ = some (.int .u8 (x3.toNat : Int)) := by
  rcases h with h | ⟨b', off', ha, hlt, hc⟩
  · exact absurd (List.append_eq_nil_iff.1 h).2 (List.cons_ne_nil _ _)
  · injection ha with ha
    injection ha with h1 h2
    subst h1 h2
    have hx : ∀ j, j < 4 → W.cell? ⟨b, off + i.length + j, none⟩ = some (.int .u8 (([x0, x1, x2, x3].getD j 0).toNat : Int)) := fun j hj => by
      rw [Nat.add_assoc, hc (i.length + j) (by rw [List.length_append]; simp; omega), get_at]
    exact ⟨hx 0 (by omega), hx 1 (by omega), hx 2 (by omega), hx 3 (by omega)⟩
theorem u8eq (x b : UInt8) : ((x.toNat : Int) == (b.toNat : Int)) = decide (b = x) := by
  rw [Bool.eq_iff_iff, beq_iff_eq, decide_eq_true_iff, Int.ofNat_inj, UInt8.toNat_inj]
  exact ⟨Eq.symm, Eq.symm⟩
theorem four_eq (x0 x1 x2 x3 b0 b1 b2 b3 : UInt8) : ((x0.toNat : Int) == (b0.toNat : Int) && (x1.toNat : Int) == (b1.toNat : Int) && (x2.toNat : Int) == (b2.toNat : Int) && (x3.toNat : Int) == (b3.toNat : Int)) = decide ([b0, b1, b2, b3] = [x0, x1, x2, x3]) := by
  rw [u8eq, u8eq, u8eq, u8eq, Bool.eq_iff_iff]
  simp only [Bool.and_eq_true, decide_eq_true_iff, List.cons.injEq, and_true, and_assoc]
theorem slice4 (b off k cap : Nat) (hc : k + 4 ≤ cap) (W : World) : (Instr.slice 23 (.slice (some ⟨b, off, none⟩) (k + 4) cap) (some (.int .i64 (k : Int))) none none).run Tryz.prog W = .ok (.slice (some ⟨b, off + k, none⟩) 4 (cap - k)) W := by
  rw [run_from _ _ _ _ (by omega) W]
  have e : cutA (some ⟨b, off, none⟩) cap k = some ⟨b, off + k, none⟩ := by
    unfold cutA
    rw [if_neg (by omega)]
    simp [Addr.add]
  rw [e, show k + 4 - k = 4 by omega]
/-- what Open answers -/
def OpenRes (i : List UInt8) (ok : Bool) (w : World) (e : Ending) (w' : World) : Prop :=
  (ok = true ∧ ∃ v, e = .returned (.tuple #[v, .bool true]) ∧ OB w' w.heap.size v i ∧ RowKit.Below w.heap.size w w' ∧ (v = .slice none 0 0 → False)) ∨ (ok = false ∧ e = .returned (.tuple #[.slice none 0 0, .bool false]) ∧ RowKit.Below w.heap.size w w')
set_option maxRecDepth 100000 in
set_option maxHeartbeats 1600000 in
theorem open_in (b off : Nat) (i : List UInt8) (x0 x1 x2 x3 : UInt8) (k cap : Nat) (w : World) (hb : BAt w (some ⟨b, off, none⟩) (i ++ [x0, x1, x2, x3])) (hk : i.length = k) (hc : k + 4 ≤ cap) (hl : k ≤ 500000) :
    Calls Tryz.prog 89 #[.slice (some ⟨b, off, none⟩) (k + 4) cap] w (OpenRes i (decide (sealL i = [x0, x1, x2, x3])) w) := by
  have d0 : decide ((k : Int) < 0) = false := by simp
  have rf := slice4 b off k cap hc
  have rt := run_to (some ⟨b, off, none⟩) (k + 4) cap k (by omega)
  have ap := fun (W : World) => run_arrayAt (P := Tryz.prog) (w := W) 137 5 4 (some ⟨b, off + k, none⟩) 4 (cap - k) Tryz.underlying137 (by omega)
  have LD := Lib.hid (fun (W : World) (h : RowKit.Below w.heap.size w W) => by have := cells4 (hb.below h); rw [hk] at this; exact this)
  obtain ⟨b0, b1, b2, b3, hs⟩ := seal_four i
  have hbi : BAt w (some ⟨b, off, none⟩) i := by have := hb.take i.length; rw [List.take_left] at this; exact this
  have HS := fun (W : World) (h : BAt W (some ⟨b, off, none⟩) i) => Lib.hid (seal_any (some ⟨b, off, none⟩) i k cap W h hk (by omega))
  have CL := fun (W : World) (h : BAt W (some ⟨b, off, none⟩) i) => Lib.hid (clone_some ⟨b, off, none⟩ i k cap W h hk (by omega))
  have nq := fun (W : World) => neq4 (x0.toNat : Int) (x1.toNat : Int) (x2.toNat : Int) (x3.toNat : Int) (b0.toNat : Int) (b1.toNat : Int) (b2.toNat : Int) (b3.toNat : Int) W
  rw [hs] at HS ⊢
  rw [show (bcells [b0, b1, b2, b3]).toArray = #[.int .u8 (b0.toNat : Int), .int .u8 (b1.toNat : Int), .int .u8 (b2.toNat : Int), .int .u8 (b3.toNat : Int)] from rfl] at HS
  rw [four_eq] at nq
  have HI := Lib.hid hbi
  clear hb hk hs hbi
  generalize decide ([b0, b1, b2, b3] = [x0, x1, x2, x3]) = ok at *
  go_enter Tryz.func89, Tryz.ntmps89
  go_wp2_with fail
  refine wp_region_held_drew (S := fun W => RowKit.Below w.heap.size w W) (by kernel_rfl) ?_ (fun hHeld => ?_)
  · exact (RowKit.Below.refl _ _).drew
  refine held_take 0 (v := ?_) rfl (by kernel_rfl) (by kernel_rfl) (by kernel_rfl) (fun _ _ _ h => h) hHeld (by rfl) ?_ ?_
  rotate_left
  · (intro W hW; go_simp; try with_reducible rfl)
  try simp only [Act.put, List.setIfInBounds_toArray, List.set_cons_zero, List.set_cons_succ]
  refine held_take 1 (v := ?_) rfl (by kernel_rfl) (by kernel_rfl) (by kernel_rfl) (fun _ _ _ h => h) hHeld (by rfl) ?_ ?_
  rotate_left
  · (intro W hW; go_simp; try with_reducible rfl)
  try simp only [Act.put, List.setIfInBounds_toArray, List.set_cons_zero, List.set_cons_succ]
  refine held_take 2 (v := ?_) rfl (by kernel_rfl) (by kernel_rfl) (by kernel_rfl) (fun _ _ _ h => h) hHeld (by rfl) ?_ ?_
  rotate_left
  · (intro W hW; go_simp; try with_reducible rfl)
  try simp only [Act.put, List.setIfInBounds_toArray, List.set_cons_zero, List.set_cons_succ]
  refine held_take 3 (v := ?_) rfl (by kernel_rfl) (by kernel_rfl) (by kernel_rfl) (fun _ _ _ h => h) hHeld (by rfl) ?_ ?_
  rotate_left
  · (intro W hW; go_simp; try with_reducible rfl)
  try simp only [Act.put, List.setIfInBounds_toArray, List.set_cons_zero, List.set_cons_succ]
  refine held_take 4 (v := ?_) rfl (by kernel_rfl) (by kernel_rfl) (by kernel_rfl) (fun _ _ _ h => h) hHeld (by rfl) ?_ ?_
  rotate_left
  · (intro W hW; go_simp; try with_reducible rfl)
  try simp only [Act.put, List.setIfInBounds_toArray, List.set_cons_zero, List.set_cons_succ]
  refine held_take 5 (v := ?_) rfl (by kernel_rfl) (by kernel_rfl) (by kernel_rfl) (fun _ _ _ h => h) hHeld (by rfl) ?_ ?_
  rotate_left
  · (intro W hW; have e := rf W; go_simp; try with_reducible rfl)
  try simp only [Act.put, List.setIfInBounds_toArray, List.set_cons_zero, List.set_cons_succ]
  refine held_take 6 (v := ?_) rfl (by kernel_rfl) (by kernel_rfl) (by kernel_rfl) (fun _ _ _ h => h) hHeld (by rfl) ?_ ?_
  rotate_left
  · (intro W hW; have e := ap W; go_simp; try with_reducible rfl)
  try simp only [Act.put, List.setIfInBounds_toArray, List.set_cons_zero, List.set_cons_succ]
  refine held_take 7 (v := ?_) rfl (by kernel_rfl) (by kernel_rfl) (by kernel_rfl) (fun _ _ _ h => h) hHeld (by rfl) ?_ ?_
  rotate_left
  · (intro W hW; have e := LD.out W hW; obtain ⟨e0, e1, e2, e3⟩ := e; go_simp; try with_reducible rfl)
  try simp only [Act.put, List.setIfInBounds_toArray, List.set_cons_zero, List.set_cons_succ]
  refine held_take 8 (v := ?_) rfl (by kernel_rfl) (by kernel_rfl) (by kernel_rfl) (fun _ _ _ h => h) hHeld (by rfl) ?_ ?_
  rotate_left
  · (intro W hW; go_simp; try with_reducible rfl)
  try simp only [Act.put, List.setIfInBounds_toArray, List.set_cons_zero, List.set_cons_succ]
  refine held_take 9 (v := ?_) rfl (by kernel_rfl) (by kernel_rfl) (by kernel_rfl) (fun _ _ _ h => h) hHeld (by rfl) ?_ ?_
  rotate_left
  · (intro W hW; go_simp; try with_reducible rfl)
  try simp only [Act.put, List.setIfInBounds_toArray, List.set_cons_zero, List.set_cons_succ]
  refine held_take 10 (v := ?_) rfl (by kernel_rfl) (by kernel_rfl) (by kernel_rfl) (fun _ _ _ h => h) hHeld (by rfl) ?_ ?_
  rotate_left
  · (intro W hW; have e := rt W; go_simp; try with_reducible rfl)
  try simp only [Act.put, List.setIfInBounds_toArray, List.set_cons_zero, List.set_cons_succ]
  refine held_next 11 rfl (by kernel_rfl) (by rfl) (fun K hK => ?_)
  go_simp
  go_at_call 79
  refine (HS _ (HI.out.below (RowKit.Below.refl _ _).drew)).out.mono ?_
  rintro _ w1 ⟨rfl, hb1⟩
  have HX := Lib.hid (((RowKit.Below.refl w.heap.size w).drew).trans (hb1.mono (by simp)))
  clear hb1
  refine hK.out _ _ HX.out (fun hHeld => ?_)
  clear hK K
  try simp only [Act.put, List.setIfInBounds_toArray, List.set_cons_zero, List.set_cons_succ]
  refine held_take 12 (v := ?_) rfl (by kernel_rfl) (by kernel_rfl) (by kernel_rfl) (fun _ _ _ h => h) hHeld (by rfl) ?_ ?_
  rotate_left
  · (intro W hW; have e := nq W; go_simp; try with_reducible rfl)
  try simp only [Act.put, List.setIfInBounds_toArray, List.set_cons_zero, List.set_cons_succ]
  refine held_take 13 (v := ?_) rfl (by kernel_rfl) (by kernel_rfl) (by kernel_rfl) (fun _ _ _ h => h) hHeld (by rfl) ?_ ?_
  rotate_left
  · (intro W hW; go_simp; try with_reducible rfl)
  try simp only [Act.put, List.setIfInBounds_toArray, List.set_cons_zero, List.set_cons_succ]
  refine wpAnyH_done (by kernel_rfl) ?_ _
  go_simp
  cases ok with
  | false =>
    go_wp2_with fail
    go_ret2
    exact Or.inr ⟨rfl, rfl, HX.out⟩
  | true =>
    go_wp2_with fail
    refine (CL _ (HI.out.below HX.out)).out.mono ?_
    rintro _ w2 ⟨v, rfl, ho, hb2, hv⟩
    have HO := Lib.hid (ho.mono HX.out.size)
    have HW := Lib.hid (HX.out.trans (hb2.mono HX.out.size))
    have HV := Lib.hid hv
    clear ho hb2 hv
    go_wp2_with fail
    go_ret2
    exact Or.inl ⟨rfl, v, rfl, HO.out, HW.out, HV.out⟩
set_option maxRecDepth 100000 in
theorem open_short (a : Option Addr) (n cap : Nat) (w : World) (hn : n < 4) :
    Calls Tryz.prog 89 #[.slice a n cap] w (OpenRes [] false w) := by
  have d0 : decide ((n : Int) - 4 < 0) = true := by simp; omega
  go_enter Tryz.func89, Tryz.ntmps89
  go_wp2_with fail
  go_quiet (fail)
  go_wp2_with fail
  go_ret2
  exact Or.inr ⟨rfl, rfl, below_drewN (RowKit.Below.refl _ _) _⟩
end Go.Proofs.YtdfbpaajkpnaeaaGreat
