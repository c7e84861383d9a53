/- A variable in memory that holds ten digits. -/
import Derived.Test.YtaebbfaheaghfaaNumMem
import Derived.Deep.MidRow
namespace Go.Proofs.Ytaebbfaheaghfaa
open Go.RowKit

/-- the ten digits of x lie in block b, and may be written -/
structure DigAt (w : World) (b : Nat) (x : Int) : Prop where
  c0 : w.cell? ⟨b, 0, none⟩ = some (.int .u64 (dgt x 0))
  c1 : w.cell? ⟨b, 1, none⟩ = some (.int .u64 (dgt x 1))
  c2 : w.cell? ⟨b, 2, none⟩ = some (.int .u64 (dgt x 2))
  c3 : w.cell? ⟨b, 3, none⟩ = some (.int .u64 (dgt x 3))
  c4 : w.cell? ⟨b, 4, none⟩ = some (.int .u64 (dgt x 4))
  c5 : w.cell? ⟨b, 5, none⟩ = some (.int .u64 (dgt x 5))
  c6 : w.cell? ⟨b, 6, none⟩ = some (.int .u64 (dgt x 6))
  c7 : w.cell? ⟨b, 7, none⟩ = some (.int .u64 (dgt x 7))
  c8 : w.cell? ⟨b, 8, none⟩ = some (.int .u64 (dgt x 8))
  c9 : w.cell? ⟨b, 9, none⟩ = some (.int .u64 (dgt x 9))
  f : ∀ i, w.frozen? ⟨b, i, none⟩ = false
  lt : b < w.heap.size

/-- room for ten digits -/
structure Room10 (w : World) (b : Nat) : Prop where
  ex : ∀ j, j < 10 → ∃ v, w.cell? ⟨b, j, none⟩ = some v
  f : ∀ i, w.frozen? ⟨b, i, none⟩ = false
  lt : b < w.heap.size

theorem DigAt.room {w : World} {b : Nat} {x : Int} (h : DigAt w b x) : Room10 w b := by
  refine ⟨fun j h1 => ?_, h.f, h.lt⟩
  have : j = 0 ∨ j = 1 ∨ j = 2 ∨ j = 3 ∨ j = 4 ∨ j = 5 ∨ j = 6 ∨ j = 7 ∨ j = 8 ∨ j = 9 := by omega
  rcases this with rfl | rfl | rfl | rfl | rfl | rfl | rfl | rfl | rfl | rfl
  · exact ⟨_, h.c0⟩
  · exact ⟨_, h.c1⟩
  · exact ⟨_, h.c2⟩
  · exact ⟨_, h.c3⟩
  · exact ⟨_, h.c4⟩
  · exact ⟨_, h.c5⟩
  · exact ⟨_, h.c6⟩
  · exact ⟨_, h.c7⟩
  · exact ⟨_, h.c8⟩
  · exact ⟨_, h.c9⟩

theorem Room10.set {w : World} {b : Nat} (h : Room10 w b) (j : Nat) (v : Value) : Room10 (w.setCell ⟨b, j, none⟩ v) b := by
  refine ⟨fun i h3 => ?_, fun i => ?_, ?_⟩
  · obtain ⟨u, hu⟩ := h.ex i h3
    exact cell?_setCell_some hu
  · rw [World.frozen?_setCell]; exact h.f i
  · simpa using h.lt

theorem Room10.below {w w' : World} {b : Nat} (h : Room10 w b) (hb : Below w.heap.size w w') : Room10 w' b := by
  have hl := h.lt
  refine ⟨fun i h3 => ?_, fun i => ?_, Nat.lt_of_lt_of_le hl hb.size⟩
  · obtain ⟨u, hu⟩ := h.ex i h3
    exact ⟨u, by rw [hb.cell (p := ⟨b, i, none⟩) hl]; exact hu⟩
  · rw [hb.frozen (p := ⟨b, i, none⟩) hl]; exact h.f i

/-- the ten digits stored, one behind the other -/
abbrev putd (w : World) (b : Nat) (s : Int) : World := ((((((((((w.setCell ⟨b, 0, none⟩ (.int .u64 (dgt s 0))).setCell ⟨b, 1, none⟩ (.int .u64 (dgt s 1))).setCell ⟨b, 2, none⟩ (.int .u64 (dgt s 2))).setCell ⟨b, 3, none⟩ (.int .u64 (dgt s 3))).setCell ⟨b, 4, none⟩ (.int .u64 (dgt s 4))).setCell ⟨b, 5, none⟩ (.int .u64 (dgt s 5))).setCell ⟨b, 6, none⟩ (.int .u64 (dgt s 6))).setCell ⟨b, 7, none⟩ (.int .u64 (dgt s 7))).setCell ⟨b, 8, none⟩ (.int .u64 (dgt s 8))).setCell ⟨b, 9, none⟩ (.int .u64 (dgt s 9)))

theorem Room10.store {w : World} {b : Nat} (h : Room10 w b) (s : Int) : DigAt (putd w b s) b s := by
  have r0 := h
  have r1 := r0.set 0 (.int .u64 (dgt s 0))
  have r2 := r1.set 1 (.int .u64 (dgt s 1))
  have r3 := r2.set 2 (.int .u64 (dgt s 2))
  have r4 := r3.set 3 (.int .u64 (dgt s 3))
  have r5 := r4.set 4 (.int .u64 (dgt s 4))
  have r6 := r5.set 5 (.int .u64 (dgt s 5))
  have r7 := r6.set 6 (.int .u64 (dgt s 6))
  have r8 := r7.set 7 (.int .u64 (dgt s 7))
  have r9 := r8.set 8 (.int .u64 (dgt s 8))
  have r10 := r9.set 9 (.int .u64 (dgt s 9))
  refine ⟨?_, ?_, ?_, ?_, ?_, ?_, ?_, ?_, ?_, ?_, r10.f, r10.lt⟩
  · obtain ⟨u, hu⟩ := r0.ex 0 (by omega)
    rw [World.cell?_setCell_other _ _ _ _ (off_ne (by omega))]; rw [World.cell?_setCell_other _ _ _ _ (off_ne (by omega))]; rw [World.cell?_setCell_other _ _ _ _ (off_ne (by omega))]; rw [World.cell?_setCell_other _ _ _ _ (off_ne (by omega))]; rw [World.cell?_setCell_other _ _ _ _ (off_ne (by omega))]; rw [World.cell?_setCell_other _ _ _ _ (off_ne (by omega))]; rw [World.cell?_setCell_other _ _ _ _ (off_ne (by omega))]; rw [World.cell?_setCell_other _ _ _ _ (off_ne (by omega))]; rw [World.cell?_setCell_other _ _ _ _ (off_ne (by omega))]; exact World.cell?_setCell_same _ _ _ hu
  · obtain ⟨u, hu⟩ := r1.ex 1 (by omega)
    rw [World.cell?_setCell_other _ _ _ _ (off_ne (by omega))]; rw [World.cell?_setCell_other _ _ _ _ (off_ne (by omega))]; rw [World.cell?_setCell_other _ _ _ _ (off_ne (by omega))]; rw [World.cell?_setCell_other _ _ _ _ (off_ne (by omega))]; rw [World.cell?_setCell_other _ _ _ _ (off_ne (by omega))]; rw [World.cell?_setCell_other _ _ _ _ (off_ne (by omega))]; rw [World.cell?_setCell_other _ _ _ _ (off_ne (by omega))]; rw [World.cell?_setCell_other _ _ _ _ (off_ne (by omega))]; exact World.cell?_setCell_same _ _ _ hu
  · obtain ⟨u, hu⟩ := r2.ex 2 (by omega)
    rw [World.cell?_setCell_other _ _ _ _ (off_ne (by omega))]; rw [World.cell?_setCell_other _ _ _ _ (off_ne (by omega))]; rw [World.cell?_setCell_other _ _ _ _ (off_ne (by omega))]; rw [World.cell?_setCell_other _ _ _ _ (off_ne (by omega))]; rw [World.cell?_setCell_other _ _ _ _ (off_ne (by omega))]; rw [World.cell?_setCell_other _ _ _ _ (off_ne (by omega))]; rw [World.cell?_setCell_other _ _ _ _ (off_ne (by omega))]; exact World.cell?_setCell_same _ _ _ hu
  · obtain ⟨u, hu⟩ := r3.ex 3 (by omega)
    rw [World.cell?_setCell_other _ _ _ _ (off_ne (by omega))]; rw [World.cell?_setCell_other _ _ _ _ (off_ne (by omega))]; rw [World.cell?_setCell_other _ _ _ _ (off_ne (by omega))]; rw [World.cell?_setCell_other _ _ _ _ (off_ne (by omega))]; rw [World.cell?_setCell_other _ _ _ _ (off_ne (by omega))]; rw [World.cell?_setCell_other _ _ _ _ (off_ne (by omega))]; exact World.cell?_setCell_same _ _ _ hu
  · obtain ⟨u, hu⟩ := r4.ex 4 (by omega)
    rw [World.cell?_setCell_other _ _ _ _ (off_ne (by omega))]; rw [World.cell?_setCell_other _ _ _ _ (off_ne (by omega))]; rw [World.cell?_setCell_other _ _ _ _ (off_ne (by omega))]; rw [World.cell?_setCell_other _ _ _ _ (off_ne (by omega))]; rw [World.cell?_setCell_other _ _ _ _ (off_ne (by omega))]; exact World.cell?_setCell_same _ _ _ hu
  · obtain ⟨u, hu⟩ := r5.ex 5 (by omega)
    rw [World.cell?_setCell_other _ _ _ _ (off_ne (by omega))]; rw [World.cell?_setCell_other _ _ _ _ (off_ne (by omega))]; rw [World.cell?_setCell_other _ _ _ _ (off_ne (by omega))]; rw [World.cell?_setCell_other _ _ _ _ (off_ne (by omega))]; exact World.cell?_setCell_same _ _ _ hu
  · obtain ⟨u, hu⟩ := r6.ex 6 (by omega)
    rw [World.cell?_setCell_other _ _ _ _ (off_ne (by omega))]; rw [World.cell?_setCell_other _ _ _ _ (off_ne (by omega))]; rw [World.cell?_setCell_other _ _ _ _ (off_ne (by omega))]; exact World.cell?_setCell_same _ _ _ hu
  · obtain ⟨u, hu⟩ := r7.ex 7 (by omega)
    rw [World.cell?_setCell_other _ _ _ _ (off_ne (by omega))]; rw [World.cell?_setCell_other _ _ _ _ (off_ne (by omega))]; exact World.cell?_setCell_same _ _ _ hu
  · obtain ⟨u, hu⟩ := r8.ex 8 (by omega)
    rw [World.cell?_setCell_other _ _ _ _ (off_ne (by omega))]; exact World.cell?_setCell_same _ _ _ hu
  · obtain ⟨u, hu⟩ := r9.ex 9 (by omega)
    exact World.cell?_setCell_same _ _ _ hu

theorem DigAt.other {w : World} {b : Nat} {x : Int} (h : DigAt w b x) {c j : Nat} (v : Value) (hn : c ≠ b) : DigAt (w.setCell ⟨c, j, none⟩ v) b x := by
  refine ⟨?_, ?_, ?_, ?_, ?_, ?_, ?_, ?_, ?_, ?_, fun i => ?_, ?_⟩
  · rw [World.cell?_setCell_other w _ _ v (far_ne hn)]; exact h.c0
  · rw [World.cell?_setCell_other w _ _ v (far_ne hn)]; exact h.c1
  · rw [World.cell?_setCell_other w _ _ v (far_ne hn)]; exact h.c2
  · rw [World.cell?_setCell_other w _ _ v (far_ne hn)]; exact h.c3
  · rw [World.cell?_setCell_other w _ _ v (far_ne hn)]; exact h.c4
  · rw [World.cell?_setCell_other w _ _ v (far_ne hn)]; exact h.c5
  · rw [World.cell?_setCell_other w _ _ v (far_ne hn)]; exact h.c6
  · rw [World.cell?_setCell_other w _ _ v (far_ne hn)]; exact h.c7
  · rw [World.cell?_setCell_other w _ _ v (far_ne hn)]; exact h.c8
  · rw [World.cell?_setCell_other w _ _ v (far_ne hn)]; exact h.c9
  · rw [World.frozen?_setCell]; exact h.f i
  · simpa using h.lt
theorem DigAt.below {w w' : World} {b : Nat} {x : Int} (h : DigAt w b x) (hb : Below w.heap.size w w') : DigAt w' b x := by
  have hl := h.lt
  refine ⟨?_, ?_, ?_, ?_, ?_, ?_, ?_, ?_, ?_, ?_, fun i => ?_, Nat.lt_of_lt_of_le hl hb.size⟩
  · rw [hb.cell (p := ⟨b, 0, none⟩) hl]; exact h.c0
  · rw [hb.cell (p := ⟨b, 1, none⟩) hl]; exact h.c1
  · rw [hb.cell (p := ⟨b, 2, none⟩) hl]; exact h.c2
  · rw [hb.cell (p := ⟨b, 3, none⟩) hl]; exact h.c3
  · rw [hb.cell (p := ⟨b, 4, none⟩) hl]; exact h.c4
  · rw [hb.cell (p := ⟨b, 5, none⟩) hl]; exact h.c5
  · rw [hb.cell (p := ⟨b, 6, none⟩) hl]; exact h.c6
  · rw [hb.cell (p := ⟨b, 7, none⟩) hl]; exact h.c7
  · rw [hb.cell (p := ⟨b, 8, none⟩) hl]; exact h.c8
  · rw [hb.cell (p := ⟨b, 9, none⟩) hl]; exact h.c9
  · rw [hb.frozen (p := ⟨b, i, none⟩) hl]; exact h.f i
theorem DigAt.alloc {w : World} {b : Nat} {x : Int} (h : DigAt w b x) (o : Obj) : DigAt (w.alloc o) b x := h.below ((Below.refl _ _).alloc (Nat.le_refl _) o)
theorem DigAt.drewN {w : World} {b : Nat} {x : Int} (h : DigAt w b x) (n : Nat) : DigAt (w.drewN n) b x := h.below (below_drewN (Below.refl _ _) n)
theorem DigAt.drew {w : World} {b : Nat} {x : Int} (h : DigAt w b x) : DigAt w.drew b x := h.below (Below.refl _ _).drew
theorem DigAt.grew {w : World} {b : Nat} {x : Int} (h : DigAt w b x) (L : List Obj) : DigAt (grew w L) b x := h.below (grew_below w L)
theorem DigAt.put {w : World} {b : Nat} {x : Int} (h : DigAt w b x) {c : Nat} (s : Int) (hn : c ≠ b) : DigAt (putd w c s) b x :=
  (((((((((h.other _ hn).other _ hn).other _ hn).other _ hn).other _ hn).other _ hn).other _ hn).other _ hn).other _ hn).other _ hn
theorem DigAt.range {w : World} {b : Nat} {x : Int} (h : DigAt w b x) : w.rangeAt b 0 [.int .u64 (dgt x 0), .int .u64 (dgt x 1), .int .u64 (dgt x 2), .int .u64 (dgt x 3), .int .u64 (dgt x 4), .int .u64 (dgt x 5), .int .u64 (dgt x 6), .int .u64 (dgt x 7), .int .u64 (dgt x 8), .int .u64 (dgt x 9)] := by
  intro j v hv
  have hj : j < 10 := by
    rcases Nat.lt_or_ge j 10 with hl | hl
    · exact hl
    · rw [List.getElem?_eq_none (by simpa using hl)] at hv; cases hv
  have : j = 0 ∨ j = 1 ∨ j = 2 ∨ j = 3 ∨ j = 4 ∨ j = 5 ∨ j = 6 ∨ j = 7 ∨ j = 8 ∨ j = 9 := by omega
  rcases this with rfl | rfl | rfl | rfl | rfl | rfl | rfl | rfl | rfl | rfl
  · simp at hv; rw [← hv]; exact h.c0
  · simp at hv; rw [← hv]; exact h.c1
  · simp at hv; rw [← hv]; exact h.c2
  · simp at hv; rw [← hv]; exact h.c3
  · simp at hv; rw [← hv]; exact h.c4
  · simp at hv; rw [← hv]; exact h.c5
  · simp at hv; rw [← hv]; exact h.c6
  · simp at hv; rw [← hv]; exact h.c7
  · simp at hv; rw [← hv]; exact h.c8
  · simp at hv; rw [← hv]; exact h.c9
theorem Room10.other {w : World} {b : Nat} (h : Room10 w b) {c j : Nat} (v : Value) : Room10 (w.setCell ⟨c, j, none⟩ v) b := by
  refine ⟨fun i h3 => ?_, fun i => ?_, ?_⟩
  · obtain ⟨u, hu⟩ := h.ex i h3
    exact cell?_setCell_some hu
  · rw [World.frozen?_setCell]; exact h.f i
  · simpa using h.lt

end Go.Proofs.Ytaebbfaheaghfaa
