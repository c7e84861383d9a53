/- The walk of falseworklaw01.WideCrosses. -/
import Derived.Test.YtejbblpgdlanoaaAlive1
import Derived.Test.YtejbblpgdlanoaaRefH
import Derived.Deep.RegionHeld3
namespace Go.Proofs.Ytejbblpgdlanoaa
open Go.RowKit

theorem four_next {w W w1 : World} {a b c d : Int}
    (h : W.cell? ⟨w.heap.size, 0, none⟩ = some (.int .i64 a) ∧ W.cell? ⟨w.heap.size, 1, none⟩ = some (.int .i64 b) ∧ W.cell? ⟨w.heap.size + 1, 0, none⟩ = some (.int .i64 c) ∧ W.cell? ⟨w.heap.size + 1, 1, none⟩ = some (.int .i64 d) ∧ Below w.heap.size w W ∧ w.heap.size + 1 < W.heap.size)
    (k : Below W.heap.size W w1) :
    w1.cell? ⟨w.heap.size, 0, none⟩ = some (.int .i64 a) ∧ w1.cell? ⟨w.heap.size, 1, none⟩ = some (.int .i64 b) ∧ w1.cell? ⟨w.heap.size + 1, 0, none⟩ = some (.int .i64 c) ∧ w1.cell? ⟨w.heap.size + 1, 1, none⟩ = some (.int .i64 d) ∧ Below w.heap.size w w1 ∧ w.heap.size + 1 < w1.heap.size := by
  obtain ⟨h1, h2, h3, h4, h5, h6⟩ := h
  have hs := k.size
  refine ⟨?_, ?_, ?_, ?_, bl_trans h5 k, by omega⟩
  · rw [k.cell (p := ⟨w.heap.size, 0, none⟩) (show w.heap.size < W.heap.size by omega)]; exact h1
  · rw [k.cell (p := ⟨w.heap.size, 1, none⟩) (show w.heap.size < W.heap.size by omega)]; exact h2
  · rw [k.cell (p := ⟨w.heap.size + 1, 0, none⟩) h6]; exact h3
  · rw [k.cell (p := ⟨w.heap.size + 1, 1, none⟩) h6]; exact h4

set_option maxHeartbeats 4000000 in
theorem wideCrosses_walk (a b c d : Int) (ha : I a) (hb : I b) (hc : I c) (hd : I d) (w : World) :
    Calls Try.prog 5 #[.agg #[.int .i64 a, .int .i64 b], .agg #[.int .i64 c, .int .i64 d]] w fun e w' => e = .returned (.bool true) ∧ Below w.heap.size w w' := by
  have H1 := fun w => Lib.hid (cross_any a b c d w ha hb hc hd)
  have H2 := fun w => Lib.hid (refCross_any a b c d w ha hb hc hd)
  generalize cmpI (a * b) (c * d) = r at *
  go_enter Try.func5, Try.ntmps5
  go_wp2
  go_region_held3 (fun w' => w'.cell? ⟨w.heap.size, 0, none⟩ = some (.int .i64 a) ∧ w'.cell? ⟨w.heap.size, 1, none⟩ = some (.int .i64 b) ∧ w'.cell? ⟨w.heap.size + 1, 0, none⟩ = some (.int .i64 c) ∧ w'.cell? ⟨w.heap.size + 1, 1, none⟩ = some (.int .i64 d) ∧ Below w.heap.size w w' ∧ w.heap.size + 1 < w'.heap.size) (first | (with_reducible exact four_next (by assumption) (by assumption)) | (refine ⟨?_, ?_, ?_, ?_, (bl_two (Below.refl _ _)).drew, ?_⟩ <;> first | (simp; done) | (simp; omega))) (first | (go_at_call 12; refine (alive_any _).mono ?_; rintro e w1 ⟨rfl, hw1⟩) | (go_at_call 25; refine (H1 _).out.mono ?_; rintro e w1 ⟨rfl, hw1⟩) | (go_at_call 26; refine (H2 _).out.mono ?_; rintro e w1 ⟨rfl, hw1⟩))
  obtain ⟨_, _, _, _, hB, _⟩ := ‹_ ∧ _ ∧ _ ∧ _ ∧ Below w.heap.size w w1 ∧ _›
  go_wp2
  go_ret
  exact ⟨rfl, hB⟩
end Go.Proofs.Ytejbblpgdlanoaa
