/- slices.Grow of none. -/
import Derived.Test.YtfbbkoibccndkaaCrK
import Derived.Lib.AppendZeros
namespace Go.Proofs.Ytfbbkoibccndkaa
open Go.RowKit Go.Lib

/-- a new slice of the call's own -/
def MadeB (l : List UInt8) (w : World) (e : Ending) (w' : World) : Prop := ∃ v, e = .returned v ∧ OB w' w.heap.size v l ∧ RowKit.Below w.heap.size w w' ∧ (v = .slice none 0 0 → False)
set_option maxRecDepth 100000 in
theorem grow_nil (n : Nat) (w : World) (h0 : 1 ≤ n) (hn : n ≤ 1000000) :
    Calls Try.prog 27 #[.slice none 0 0, .int .i64 (n : Int)] w (MadeB [] w) := by
  obtain ⟨i, hi, hz, hs1, hs8⟩ := info8
  have hrz : ∀ ty, (Builtin.append_ #[22, 3] ty #[.slice none 0 0, .int .i64 (n : Int)]).run Try.prog w = _ := fun ty =>
    run_append_nil_zeros w 22 3 ty 5 i (.int .u8 0) .i64 .i64 Try.underlying22 Try.underlying3 hi hz n (by omega) (by omega) (by omega) (by rw [hs8]; omega)
  have hg1 := grownCap_ge w n 0 5
  have hg2 := grownCap_le_maxLen w n 0 5 (by unfold maxLen; omega)
  generalize grownCap w n 0 5 = G at *
  obtain ⟨C, hC⟩ : ∃ C, C = Builtin.zeroCells (Value.int .u8 0).cells n ++ Builtin.zeroCells (Value.int .u8 0).cells (G - n) := ⟨_, rfl⟩
  have hCs : C.size = G * 1 := by
    rw [hC, Array.size_append, size_zeroCells, size_zeroCells]
    simp [Value.cells]
    omega
  rw [← hC] at hrz
  have HP := Lib.hid (show MadeB [] w (.returned (.slice (some ⟨w.heap.size, 0, none⟩) 0 G)) (w.drew.alloc (.cells C 5)) from
    ⟨_, rfl, ⟨rfl, Or.inr ⟨w.heap.size, G, C, rfl, Nat.le_refl _, heap_alloc_new w.drew _, Nat.zero_le _, hg2, hCs, rfl⟩⟩, (RowKit.Below.refl _ _).drew.alloc (by simp) _, fun e => by cases e⟩)
  have HR := Lib.hid hrz
  clear hC hCs hi hz hs1 hs8 hrz hg1
  unfold maxLen at hg2
  go_enter Try.func27, Try.ntmps27
  go_wp2_with (at_builtin; refine Lib.wpList_append_run _ rfl _ _ _ _ rfl _ _ rfl rfl _ _ (HR.out _) ?_)
  go_ret
  exact HP.out
end Go.Proofs.Ytfbbkoibccndkaa
