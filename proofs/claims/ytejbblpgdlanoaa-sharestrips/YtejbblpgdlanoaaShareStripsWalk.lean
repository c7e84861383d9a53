/- The walk of falseworklaw02.ShareStrips. -/
import Derived.Test.YtejbblpgdlanoaaShare4
import Derived.Deep.RegionHeld3
namespace Go.Proofs.Ytejbblpgdlanoaa
open Go.RowKit

theorem two_next {w W w1 : World} {a b : Int}
    (h : W.cell? ⟨w.heap.size, 0, none⟩ = some (.int .i64 a) ∧ W.cell? ⟨w.heap.size, 1, none⟩ = some (.int .i64 b) ∧ Below w.heap.size w W ∧ w.heap.size < W.heap.size)
    (k : Below W.heap.size W w1) :
    w1.cell? ⟨w.heap.size, 0, none⟩ = some (.int .i64 a) ∧ w1.cell? ⟨w.heap.size, 1, none⟩ = some (.int .i64 b) ∧ Below w.heap.size w w1 ∧ w.heap.size < w1.heap.size := by
  obtain ⟨h1, h2, h5, h6⟩ := h
  have hs := k.size
  refine ⟨?_, ?_, bl_trans h5 k, by omega⟩
  · rw [k.cell (p := ⟨w.heap.size, 0, none⟩) h6]; exact h1
  · rw [k.cell (p := ⟨w.heap.size, 1, none⟩) h6]; exact h2

set_option maxHeartbeats 8000000 in
theorem strips_core (t p x y A B E : Int) (w : World) (ht : I t) (hp : I p) (hx : I x) (hy : I y)
    (HS : ∀ W, Hid (Calls Try.prog 29 #[.int .i64 t, .int .i64 p] W fun e w' => e = .returned (.tuple #[.int .i64 A, .int .i64 B, .int .i64 E]) ∧ Below W.heap.size W w'))
    (HR : ∀ W, Hid (Calls Try.prog 33 #[.int .i64 t, .int .i64 p] W fun e w' => e = .returned (.tuple #[.int .i64 A, .int .i64 B, .int .i64 E]) ∧ Below W.heap.size W w')) :
    Calls Try.prog 9 #[.int .i64 t, .int .i64 p, .agg #[.int .i64 x, .int .i64 y]] w fun e w' => e = .returned (.bool true) ∧ Below w.heap.size w w' := by
  have H1 := fun w => Lib.hid (exact_any t p x y w ht hp hx hy)
  have H2 := fun w => Lib.hid (refCross_any t y p x w ht hy hp hx)
  generalize cmpI (t * y) (p * x) = r at *
  go_enter Try.func9, Try.ntmps9
  go_wp2_with fail
  refine (alive2_any _).mono ?_
  rintro e w1 ⟨rfl, k1⟩
  go_wp2_with fail
  refine (HS _).out.mono ?_
  rintro e w2 ⟨rfl, k2⟩
  go_wp2_with fail
  refine (HR _).out.mono ?_
  rintro e w3 ⟨rfl, k3⟩
  have hS : w3.cell? ⟨w.heap.size, 0, none⟩ = some (.int .i64 x) ∧ w3.cell? ⟨w.heap.size, 1, none⟩ = some (.int .i64 y) ∧ Below w.heap.size w w3 ∧ w.heap.size < w3.heap.size := by
    refine two_next (two_next (two_next ?_ k1) k2) k3
    exact ⟨by simp, by simp, (RowKit.Below.refl _ _).alloc (Nat.le_refl _) _, by simp⟩
  have HSS := Lib.hid hS
  clear k1 k2 k3 hS
  go_upto_region 5 with (fail)
  go_region_held3 (fun w' => w'.cell? ⟨w.heap.size, 0, none⟩ = some (.int .i64 x) ∧ w'.cell? ⟨w.heap.size, 1, none⟩ = some (.int .i64 y) ∧ Below w.heap.size w w' ∧ w.heap.size < w'.heap.size) (first | (with_reducible exact two_next (by assumption) (by assumption)) | (with_reducible exact two_next HSS.out (RowKit.Below.refl _ _).drew)) (first | (go_at_call 34; refine (H1 _).out.mono ?_; rintro e w4 ⟨rfl, hw4⟩) | (go_at_call 26; refine (H2 _).out.mono ?_; rintro e w4 ⟨rfl, hw4⟩))
  all_goals
    obtain ⟨_, _, hB, _⟩ := ‹_ ∧ _ ∧ Below w.heap.size w w4 ∧ _›
    go_wp2
    go_ret
    exact ⟨rfl, hB⟩

theorem shareStrips_walk (t p x y : Int) (ht : I t) (hp : I p) (hx : I x) (hy : I y) (w : World) :
    Calls Try.prog 9 #[.int .i64 t, .int .i64 p, .agg #[.int .i64 x, .int .i64 y]] w fun e w' => e = .returned (.bool true) ∧ Below w.heap.size w w' := by
  by_cases h : t < 0 ∨ p < 0 ∨ 10000 < p
  · exact strips_core t p x y 0 0 21 w ht hp hx hy (fun W => (strip_no t p W h).mono (fun e w' ⟨he, hw⟩ => ⟨he, by rw [← hw]; exact RowKit.Below.refl _ _⟩)) (fun W => (refStrip_no t p W h).mono (fun e w' ⟨he, hw⟩ => ⟨he, by rw [← hw]; exact RowKit.Below.refl _ _⟩))
  · exact strips_core t p x y _ _ 0 w ht hp hx hy (fun W => strip_yes t p W ht (by omega) (by omega) (by omega)) (fun W => refStrip_yes t p W ht (by omega) (by omega) (by omega))
end Go.Proofs.Ytejbblpgdlanoaa
