/- The walk of falseworklaw02.ShareNames. -/
import Derived.Test.YtejbblpgdlanoaaShare3
namespace Go.Proofs.Ytejbblpgdlanoaa
open Go.RowKit

theorem row_lit2b (w : World) (b : Nat) (x y : Int) (t : TypeId) (hb : b = w.heap.size) : RowAt .i64 (w.alloc (.cells #[.int .i64 x, .int .i64 y] t)) (some ⟨b, 0, none⟩) [x, y] := by
  subst hb
  exact row_lit2 w x y t
theorem not00 : ¬ okW [0, 0] := by rintro ⟨_, _, _, j, hj, h⟩; have : j = 0 ∨ j = 1 := by simp at hj; omega
                                   rcases this with rfl | rfl <;> simp at h
theorem not1m : ¬ okW [1, -1] := by rintro ⟨_, _, h, _⟩; have := h 1 (by decide); simp at this
theorem notNil : ¬ okW [] := by rintro ⟨h, _⟩; simp at h
theorem okMax : okW [9223372036854775807, 1] := ⟨by decide, by decide, by decide, 0, by decide, by decide⟩

set_option maxHeartbeats 4000000 in
theorem shareNames_walk (w : World) :
    Calls Try.prog 7 #[] w fun e w' => e = .returned (.bool true) ∧ Below w.heap.size w w' := by
  have C1 : ∀ W, Hid (Calls Try.prog 28 #[.int .i64 5, .slice none 0 0] W fun e w' => e = noCut 21 ∧ W = w') := fun W => cut_bad none [] 0 5 W (by decide) (Or.inl rfl) notNil
  have C2 : ∀ W b, RowAt .i64 W (some ⟨b, 0, none⟩) [0, 0] → Hid (Calls Try.prog 28 #[.int .i64 5, .slice (some ⟨b, 0, none⟩) 2 2] W fun e w' => e = noCut 21 ∧ W = w') := fun W b h => cut_bad _ [0, 0] 2 5 W (by decide) h not00
  have C3 : ∀ W b, RowAt .i64 W (some ⟨b, 0, none⟩) [1, -1] → Hid (Calls Try.prog 28 #[.int .i64 5, .slice (some ⟨b, 0, none⟩) 2 2] W fun e w' => e = noCut 21 ∧ W = w') := fun W b h => cut_bad _ [1, -1] 2 5 W (by decide) h not1m
  have C4 : ∀ W a, Hid (Calls Try.prog 28 #[.int .i64 (-1), .slice a 1 1] W fun e w' => e = noCut 21 ∧ W = w') := fun W a => cut_neg a 1 1 (-1) W (by decide)
  have C5 : ∀ W, Hid (Calls Try.prog 29 #[.int .i64 5, .int .i64 10001] W fun e w' => e = .returned (.tuple #[.int .i64 0, .int .i64 0, .int .i64 21]) ∧ W = w') := fun W => strip_no 5 10001 W (by decide)
  have C6 : ∀ W b, RowAt .i64 W (some ⟨b, 0, none⟩) [9223372036854775807, 1] → Hid (Calls Try.prog 28 #[.int .i64 5, .slice (some ⟨b, 0, none⟩) 2 2] W fun e w' => e = noCut 11 ∧ Below W.heap.size W w') := fun W b h => cut_over b 0 2 5 [9223372036854775807, 1] W (by decide) okMax (by decide) (by decide) h
  go_enter Try.func7, Try.ntmps7
  go_wp2_with fail
  (with_reducible refine (C1 _).out.mono ?_)
  rintro e w1 ⟨rfl, rfl⟩
  go_wp2_with fail
  (with_reducible refine (C2 _ _ (row_lit2b _ _ 0 0 _ (by simp))).out.mono ?_)
  rintro e w1 ⟨rfl, rfl⟩
  go_wp2_with fail
  (with_reducible refine (C3 _ _ (row_lit2b _ _ 1 (-1) _ (by simp))).out.mono ?_)
  rintro e w1 ⟨rfl, rfl⟩
  go_wp2_with fail
  (with_reducible refine (C4 _ _).out.mono ?_)
  rintro e w1 ⟨rfl, rfl⟩
  go_wp2_with fail
  (with_reducible refine (C5 _).out.mono ?_)
  rintro e w1 ⟨rfl, rfl⟩
  go_wp2_with fail
  (with_reducible refine (C6 _ _ (row_lit2b _ _ 9223372036854775807 1 _ (by simp))).out.mono ?_)
  rintro e w1 ⟨rfl, hb1⟩
  have hB : Below w.heap.size w w1 := by
    refine RowKit.Below.trans ?_ (hb1.mono (by simp; omega))
    have hb := Below.refl w.heap.size w
    repeat' (first | (with_reducible exact hb) | (with_reducible refine RowKit.Below.alloc ?_ ?_ _) | (simp; done) | (simp; omega))
  clear hb1
  go_wp2_with fail
  refine (alive2_any _).mono ?_
  rintro e w2 ⟨rfl, hb2⟩
  go_wp2
  go_ret
  exact ⟨rfl, bl_trans hB hb2⟩
end Go.Proofs.Ytejbblpgdlanoaa
