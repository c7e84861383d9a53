/- Parse, of the program. -/
import Derived.Test.YtfifollmpohcoaaDoorCivF
import Derived.Deep.RegionWith
namespace Go.Proofs.YtfifollmpohcoaaDoor
open Go.RowKit Go.Sort

def val2 (b0 b1 : UInt8) : Int := 10 * ((b0.toNat : Int) - 48) + (b1.toNat : Int) - 48
def val4 (b0 b1 b2 b3 : UInt8) : Int := 10 * (10 * (10 * ((b0.toNat : Int) - 48) + (b1.toNat : Int) - 48) + (b2.toNat : Int) - 48) + (b3.toNat : Int) - 48

set_option maxHeartbeats 400000 in
theorem value2_any (b0 b1 : UInt8) (w : World) : Calls Tryd.prog 31 #[.string ⟨#[b0, b1]⟩] w fun e w' => e = .returned (.int .i64 (val2 b0 b1)) ∧ w = w' := by
  have h0 : (b0.toNat : Int) < 256 := by have := b0.toNat_lt; omega
  have g0 : (⟨#[b0, b1]⟩ : ByteArray)[0]'(by show 0 < 2; omega) = b0 := rfl
  have h1 : (b1.toNat : Int) < 256 := by have := b1.toNat_lt; omega
  have g1 : (⟨#[b0, b1]⟩ : ByteArray)[1]'(by show 1 < 2; omega) = b1 := rfl
  go_enter Tryd.func31, Tryd.ntmps31
  go_wp2
  refine wp_loop_rounds 3 ?_
  rw [rounds_succ]
  go_wp2
  rw [rounds_succ]
  go_wp2
  rw [rounds_succ]
  go_wp2
  go_ret
  exact ⟨ret_int (by unfold val2; omega), rfl⟩

set_option maxHeartbeats 400000 in
theorem value4_any (b0 b1 b2 b3 : UInt8) (w : World) : Calls Tryd.prog 31 #[.string ⟨#[b0, b1, b2, b3]⟩] w fun e w' => e = .returned (.int .i64 (val4 b0 b1 b2 b3)) ∧ w = w' := by
  have h0 : (b0.toNat : Int) < 256 := by have := b0.toNat_lt; omega
  have g0 : (⟨#[b0, b1, b2, b3]⟩ : ByteArray)[0]'(by show 0 < 4; omega) = b0 := rfl
  have h1 : (b1.toNat : Int) < 256 := by have := b1.toNat_lt; omega
  have g1 : (⟨#[b0, b1, b2, b3]⟩ : ByteArray)[1]'(by show 1 < 4; omega) = b1 := rfl
  have h2 : (b2.toNat : Int) < 256 := by have := b2.toNat_lt; omega
  have g2 : (⟨#[b0, b1, b2, b3]⟩ : ByteArray)[2]'(by show 2 < 4; omega) = b2 := rfl
  have h3 : (b3.toNat : Int) < 256 := by have := b3.toNat_lt; omega
  have g3 : (⟨#[b0, b1, b2, b3]⟩ : ByteArray)[3]'(by show 3 < 4; omega) = b3 := rfl
  go_enter Tryd.func31, Tryd.ntmps31
  go_wp2
  refine wp_loop_rounds 5 ?_
  rw [rounds_succ]
  go_wp2
  rw [rounds_succ]
  go_wp2
  rw [rounds_succ]
  go_wp2
  rw [rounds_succ]
  go_wp2
  rw [rounds_succ]
  go_wp2
  go_ret
  exact ⟨ret_int (by unfold val4; omega), rfl⟩

/-- a right date's text tells the date -/
theorem text_val {y m d : Int} (h : rightP y m d) : val4 (dgB (y / 10 / 10 / 10)) (dgB (y / 10 / 10)) (dgB (y / 10)) (dgB y) = y ∧ val2 (dgB (m / 10)) (dgB m) = m ∧ val2 (dgB (d / 10)) (dgB d) = d := by
  obtain ⟨a1, a2, a3, a4, a5, a6⟩ := h
  have := lenF_hi y m
  unfold val4 val2
  simp only [dgB_nat]
  refine ⟨by omega, by omega, by omega⟩
theorem text_inj {y m d y' m' d' : Int} (h : rightP y m d) (h' : rightP y' m' d') (he : textB y m d = textB y' m' d') : y = y' ∧ m = m' ∧ d = d' := by
  unfold textB at he
  simp only [ByteArray.mk.injEq, Array.mk.injEq, List.cons.injEq, and_true, true_and] at he
  obtain ⟨e1, e2, e3, e4, e5, e6, e7, e8⟩ := he
  obtain ⟨k1, k2, k3⟩ := text_val h
  obtain ⟨l1, l2, l3⟩ := text_val h'
  rw [e1, e2, e3, e4] at k1
  rw [e5, e6] at k2
  rw [e7, e8] at k3
  exact ⟨k1.symm.trans l1, k2.symm.trans l2, k3.symm.trans l3⟩

set_option maxHeartbeats 400000 in
theorem parse_short (s : ByteArray) (w : World) (h : s.size ≠ 10) : Calls Tryd.prog 25 #[.string s] w fun e w' => e = .returned (.tuple #[.agg #[.int .i64 0, .int .i64 0, .int .i64 0], .int .i64 31]) ∧ Gr w w' := by
  have h1 : ¬ (s.size : Int) = 10 := by omega
  go_enter Tryd.func25, Tryd.ntmps25
  go_wp2
  refine bodyPost_ret (v := .tuple #[.agg #[.int .i64 0, .int .i64 0, .int .i64 0], .int .i64 31]) (by simp [results, Tryd.results25, go_sem]) rfl ⟨rfl, ?_⟩
  repeat' (first | (with_reducible exact Gr.refl _) | with_reducible apply Gr.alloc | (with_reducible refine Gr.setCell ?_ ?_ _) | (simp; done))

/-- where Parse keeps its answer and its date -/
theorem two_boxes (w : World) (y m d : Int) : (∀ i, i < 3 → (((w.alloc (Obj.cells #[Value.int IntKind.i64 0, Value.int IntKind.i64 0, Value.int IntKind.i64 0] 23)).alloc (Obj.cells #[Value.int IntKind.i64 y, Value.int IntKind.i64 m, Value.int IntKind.i64 d] 23)).drew).cell? ⟨w.heap.size, i, none⟩ = some (.int .i64 0)) ∧ (∀ i, i < 3 → (((w.alloc (Obj.cells #[Value.int IntKind.i64 0, Value.int IntKind.i64 0, Value.int IntKind.i64 0] 23)).alloc (Obj.cells #[Value.int IntKind.i64 y, Value.int IntKind.i64 m, Value.int IntKind.i64 d] 23)).drew).frozen? ⟨w.heap.size, i, none⟩ = false) ∧ (((w.alloc (Obj.cells #[Value.int IntKind.i64 0, Value.int IntKind.i64 0, Value.int IntKind.i64 0] 23)).alloc (Obj.cells #[Value.int IntKind.i64 y, Value.int IntKind.i64 m, Value.int IntKind.i64 d] 23)).drew).cell? ⟨w.heap.size + 1, 0, none⟩ = some (.int .i64 y) ∧ (((w.alloc (Obj.cells #[Value.int IntKind.i64 0, Value.int IntKind.i64 0, Value.int IntKind.i64 0] 23)).alloc (Obj.cells #[Value.int IntKind.i64 y, Value.int IntKind.i64 m, Value.int IntKind.i64 d] 23)).drew).cell? ⟨w.heap.size + 1, 1, none⟩ = some (.int .i64 m) ∧ (((w.alloc (Obj.cells #[Value.int IntKind.i64 0, Value.int IntKind.i64 0, Value.int IntKind.i64 0] 23)).alloc (Obj.cells #[Value.int IntKind.i64 y, Value.int IntKind.i64 m, Value.int IntKind.i64 d] 23)).drew).cell? ⟨w.heap.size + 1, 2, none⟩ = some (.int .i64 d) ∧ (((w.alloc (Obj.cells #[Value.int IntKind.i64 0, Value.int IntKind.i64 0, Value.int IntKind.i64 0] 23)).alloc (Obj.cells #[Value.int IntKind.i64 y, Value.int IntKind.i64 m, Value.int IntKind.i64 d] 23)).drew).heap.size = w.heap.size + 2 := by
  refine ⟨fun i hi => ?_, fun i hi => ?_, ?_, ?_, ?_, ?_⟩
  · have : i = 0 ∨ i = 1 ∨ i = 2 := by omega
    rcases this with rfl | rfl | rfl <;> simp [go_sem]
  · simp [go_sem]
  all_goals simp [go_sem]
theorem gfrozen {w w' : World} (h : Gr w w') {b o : Nat} (hb : b < w.heap.size) (hc : w.frozen? ⟨b, o, none⟩ = false) : w'.frozen? ⟨b, o, none⟩ = false := by
  rw [h.below.frozen (p := ⟨b, o, none⟩) hb]; exact hc

end Go.Proofs.YtfifollmpohcoaaDoor
