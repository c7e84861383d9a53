/- slices.Backward over bytes: its iterator's contract. -/
import Derived.Test.YtoibonalgmmkbaaSmD
import Derived.RangeFuncNested
import Derived.RangeFuncBound
import Derived.RangeFuncCalls
import Derived.RangeFuncLeaves
import Derived.Shelf.Abstract
import Derived.Shelf.RegionOpen
import Derived.OwnWalkIn
import Derived.TacticsInMore
import Derived.LoopNIn
import Derived.LoopIn
namespace Go.Proofs.Ytoibonalgmmkbaa
open Go.RowKit Go.Lib Go.Shelf

attribute [local go_sem] Oper.semAt_some

/-- the last comes first -/
def downs (zs : List UInt8) (len k : Nat) : List (Nat × UInt8) := (List.range k).map fun r => (len - 1 - r, zs[len - 1 - r]?.getD 0)
theorem downs_succ (zs : List UInt8) (len k : Nat) : downs zs len (k + 1) = downs zs len k ++ [(len - 1 - k, zs[len - 1 - k]?.getD 0)] := by simp [downs, List.range_succ]
theorem downs_length (zs : List UInt8) (len k : Nat) : (downs zs len k).length = k := by simp [downs]
set_option maxRecDepth 100000 in
set_option maxHeartbeats 2000000 in
theorem back1_in (F : Fence) (n : Nat) (h48 : F.fn 48) (hro : F.round = none) (hn : 1 ≤ n) (l Bs b off len cap : Nat) (zs : List UInt8) (hlen : len ≤ 1000000) (J Jx : List (Nat × UInt8) → World → Prop)
    (hY : ∀ pre x W, J pre W → pre.length < len → YieldAt F (n - 1) Try.prog l #[.int .i64 (x.1 : Int), .int .u8 (x.2.toNat : Int)] W fun e W' =>
      (e = .returned (.bool true) ∧ J (pre ++ [x]) W' ∧ Agree [b, Bs] W W') ∨ (e = .returned (.bool false) ∧ Jx (pre ++ [x]) W'))
    (W : World) (hBs : W.cell? ⟨Bs, 0, none⟩ = some (.slice (some ⟨b, off, none⟩) len cap)) (hc : ∀ j, j < len → W.cell? ⟨b, off + j, none⟩ = some (.int .u8 ((zs[j]?.getD 0).toNat : Int))) (h0 : J [] W) :
    CallsIn F n Try.prog 48 #[.func (.yield l) #[] #[], .pointer (some ⟨Bs, 0, none⟩)] W fun e W' => (∃ v, e = .returned v) ∧
      ((∃ ys, ys = downs zs len len ∧ J ys W') ∨ (∃ pre, True ∧ Jx pre W')) := by
  refine callsIn_of_wp Try.func48 rfl h48 ?_ hro
  simp only [Try.ntmps48, List.size_toArray, List.length_cons, List.length_nil, Nat.reduceAdd, Nat.reduceSub, Array.replicate_succ, Array.replicate_zero, List.push_toArray, List.append_toArray, List.nil_append, List.cons_append]
  gi_wp2
  gi_loopw [3] (fun i wr => ∃ (j : Nat) (z : Int), i = .int .i64 z ∧ z = (j : Int) - 1 ∧ j ≤ len ∧ J (downs zs len (len - j)) wr ∧ Agree [b, Bs] W wr)
    (fun i _ => (intOf i + 1).toNat)
  case atStart => exact ⟨len, _, rfl, by simp, Nat.le_refl _, by rw [Nat.sub_self]; exact h0, fun _ _ => rfl⟩
  case round =>
    obtain ⟨j, z, rfl, hz, hj, hJs, hag⟩ := hrel
    have hB := hag.cell (by simp) hBs
    cases j with
    | succ j =>
      obtain rfl : z = (j : Int) := by omega
      have hcj := hag.cell (b := b) (by simp) (hc j (by omega))
      have hx : downs zs len (len - j) = downs zs len (len - (j + 1)) ++ [(j, zs[j]?.getD 0)] := by
        rw [show len - j = len - (j + 1) + 1 by omega, downs_succ, show len - 1 - (len - (j + 1)) = j by omega]
      obtain ⟨fn, tmps, assign, body, hy, hR⟩ := hY _ (j, zs[j]?.getD 0) wr hJs (by rw [downs_length]; omega)
      dsimp only at hy
      rw [← hx] at hR
      have HAG := Lib.hid hag
      clear hz hx hag
      gi_wp2
      refine hR.mono ?_
      rintro e W3 (⟨rfl, hJ3, hk3⟩ | ⟨rfl, hJx3⟩)
      · gi_wp2
        go_roundw
        case rel => exact ⟨j, (j : Int) - 1, by go_num, rfl, by omega, hJ3, fun i hi => (hk3 i hi).trans (HAG.out i hi)⟩
        case measure => simp [intOf]
      · gi_wp2
        refine bodyPost_ret (results_none rfl _ _ _) rfl ?_
        exact ⟨⟨_, rfl⟩, .inr ⟨_, trivial, hJx3⟩⟩
    | zero =>
      have d0 : decide (0 ≤ z) = false := by simp; omega
      clear hz
      gi_wp2
      go_end0
      exact ⟨⟨_, rfl⟩, .inl ⟨_, rfl, by rw [Nat.sub_zero] at hJs; exact hJs⟩⟩
/-- slices.Backward(s) -/
theorem back_in (F : Fence) (n : Nat) (h45 : F.fn 45) (hro : F.round = none) (a : Option Addr) (len cap : Nat) (w : World) :
    CallsIn F n Try.prog 45 #[.slice a len cap] w fun e w' => e = .returned (.func (.func 48) #[] #[.pointer (some ⟨w.heap.size, 0, none⟩)]) ∧ w' = w.alloc (.cells #[.slice a len cap] 24) := by
  refine callsIn_of_wp Try.func45 rfl h45 ?_ hro
  simp only [Try.ntmps45, List.size_toArray, List.length_cons, List.length_nil, Nat.reduceAdd, Nat.reduceSub, Array.replicate_succ, Array.replicate_zero, List.push_toArray, List.append_toArray, List.nil_append, List.cons_append]
  gi_wp2
  go_ret
  exact ⟨rfl, rfl⟩
theorem back_stops (F : Fence) (n : Nat) (h48 : F.fn 48) (hro : F.round = none) (hn : 1 ≤ n) (Bs b off len cap : Nat) (zs : List UInt8) (hlen : len ≤ 1000000) (w : World) (hBl : Bs < w.heap.size) (hbl : b < w.heap.size)
    (hBs : w.cell? ⟨Bs, 0, none⟩ = some (.slice (some ⟨b, off, none⟩) len cap)) (hc : ∀ j, j < len → w.cell? ⟨b, off + j, none⟩ = some (.int .u8 ((zs[j]?.getD 0).toNat : Int))) :
    SeqStopsK F n Try.prog 48 #[.pointer (some ⟨Bs, 0, none⟩)] (fun x : Nat × UInt8 => #[Value.int .i64 (x.1 : Int), Value.int .u8 (x.2.toNat : Int)]) (Agree [b, Bs]) (fun ys => ys = downs zs len len) (fun _ => True) len w := fun l J Jx W hW _ _ hY h0 =>
  back1_in F n h48 hro hn l Bs b off len cap zs hlen J Jx hY W ((hW.cell hBl).trans hBs) (fun j hj => (hW.cell hbl).trans (hc j hj)) h0
end Go.Proofs.Ytoibonalgmmkbaa
