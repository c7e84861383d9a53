/- falseworklaw02.shareAlive, share.Strip, share.Exact, falseworkref02.Strip. -/
import Derived.Test.YtejbblpgdlanoaaShare2
namespace Go.Proofs.Ytejbblpgdlanoaa
open Go.RowKit Go.Shelf Go.Sort

theorem IntsAt.row {w : World} {b : Nat} {f : Nat → Int} {l : List Int} (h : IntsAt w b l.length f) (e : ∀ j, j < l.length → f j = l.getD j 0) : RowAt .i64 w (some ⟨b, 0, none⟩) l :=
  Or.inr ⟨b, 0, rfl, h.lt, fun i hi => by rw [Nat.zero_add, h.c i hi, e i hi]⟩
theorem row_lit3 (w : World) (x y z : Int) (t : TypeId) : RowAt .i64 (w.alloc (.cells #[.int .i64 x, .int .i64 y, .int .i64 z] t)) (some ⟨w.heap.size, 0, none⟩) [x, y, z] := by
  refine Or.inr ⟨_, 0, rfl, by simp, fun i hi => ?_⟩
  have : i = 0 ∨ i = 1 ∨ i = 2 := by simp at hi; omega
  rcases this with rfl | rfl | rfl <;> simp
theorem row_lit2 (w : World) (x y : Int) (t : TypeId) : RowAt .i64 (w.alloc (.cells #[.int .i64 x, .int .i64 y] t)) (some ⟨w.heap.size, 0, none⟩) [x, y] := by
  refine Or.inr ⟨_, 0, rfl, by simp, fun i hi => ?_⟩
  have : i = 0 ∨ i = 1 := by simp at hi; omega
  rcases this with rfl | rfl <;> simp

theorem ok111 : okW [1, 1, 1] := ⟨by decide, by decide, by decide, 0, by decide, by decide⟩
theorem cut111 : ∀ j, j < 3 → cutF 10 [1, 1, 1] j = [4, 3, 3].getD j 0 := by decide

set_option maxHeartbeats 2000000 in
theorem alive2_any (w : World) : Calls Try.prog 30 #[] w fun e w' => e = .returned (.bool true) ∧ Below w.heap.size w w' := by
  have C : ∀ W b, RowAt .i64 W (some ⟨b, 0, none⟩) [1, 1, 1] → Hid (Calls Try.prog 28 #[.int .i64 10, .slice (some ⟨b, 0, none⟩) 3 3] W (CutIs 10 [1, 1, 1] W)) := fun W b h =>
    cut_small b 0 3 10 [1, 1, 1] W (by decide) (by decide) ok111 (by decide) (by decide) (by decide) h
  go_enter Try.func30, Try.ntmps30
  go_wp2_with fail
  refine (C _ _ (row_lit3 w 1 1 1 _)).out.mono ?_
  rintro e w1 ⟨pb, rfl, hb1, hp, hI⟩
  have hR : RowAt .i64 w1 (some ⟨pb, 0, none⟩) [4, 3, 3] := IntsAt.row (l := [4, 3, 3]) hI cut111
  have HR := Lib.hid hR
  have hz := hb1.size
  have hB : Below w.heap.size w w1 := by
    refine RowKit.Below.trans ((RowKit.Below.refl _ _).alloc (Nat.le_refl _) _) (hb1.mono (by simp))
  have HB := Lib.hid hB
  have S : ∀ W b, RowAt .i64 W (some ⟨pb, 0, none⟩) [4, 3, 3] → RowAt .i64 W (some ⟨b, 0, none⟩) [4, 3, 3] → Hid (Calls Try.prog 32 #[.slice (some ⟨pb, 0, none⟩) 3 3, .slice (some ⟨b, 0, none⟩) 3 3] W (Said true W)) := fun W b h1 h2 =>
    same_any _ _ 3 3 [4, 3, 3] [4, 3, 3] W h1 h2 (by decide)
  clear hR hI hB C hb1
  go_wp2_with fail
  refine (S _ _ (HR.out.below ((RowKit.Below.refl _ _).alloc (Nat.le_refl _) _)) (row_lit3 w1 4 3 3 _)).out.mono ?_
  rintro e w2 ⟨rfl, q, rfl⟩
  go_wp2
  go_ret
  exact ⟨rfl, below_drewN (HB.out.alloc (by have := HB.out.size; omega) _) _⟩

set_option maxHeartbeats 2000000 in
theorem strip_no (t p : Int) (w : World) (h : t < 0 ∨ p < 0 ∨ 10000 < p) :
    Calls Try.prog 29 #[.int .i64 t, .int .i64 p] w fun e w' => e = .returned (.tuple #[.int .i64 0, .int .i64 0, .int .i64 21]) ∧ w = w' := by
  by_cases h1 : t < 0
  · have d1 : decide (t < 0) = true := by simpa using h1
    go_enter Try.func29, Try.ntmps29
    go_wp2
    go_ret3
    exact ⟨rfl, rfl⟩
  · have d1 : decide (t < 0) = false := by simpa using h1
    by_cases h2 : p < 0
    · have d2 : decide (p < 0) = true := by simpa using h2
      go_enter Try.func29, Try.ntmps29
      go_wp2
      go_ret3
      exact ⟨rfl, rfl⟩
    · have d2 : decide (p < 0) = false := by simpa using h2
      have h3 : 10000 < p := by omega
      have d3 : decide (10000 < p) = true := by simpa using h3
      go_enter Try.func29, Try.ntmps29
      go_wp2
      go_ret3
      exact ⟨rfl, rfl⟩
end Go.Proofs.Ytejbblpgdlanoaa
