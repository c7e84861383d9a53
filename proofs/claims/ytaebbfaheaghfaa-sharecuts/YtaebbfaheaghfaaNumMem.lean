/- A variable in memory that holds a number: a sign and ten digits. -/
import Derived.Test.YtaebbfaheaghfaaRefC
namespace Go.Proofs.Ytaebbfaheaghfaa
open Go.RowKit

/-- a number's sign and digits lie in block b -/
structure IsNum (w : World) (b : Nat) (m : Bool) (x : Int) : Prop where
  c0 : w.cell? ⟨b, 0, none⟩ = some (.bool m)
  c1 : w.cell? ⟨b, 1, none⟩ = some (.int .u64 (dgt x 0))
  c2 : w.cell? ⟨b, 2, none⟩ = some (.int .u64 (dgt x 1))
  c3 : w.cell? ⟨b, 3, none⟩ = some (.int .u64 (dgt x 2))
  c4 : w.cell? ⟨b, 4, none⟩ = some (.int .u64 (dgt x 3))
  c5 : w.cell? ⟨b, 5, none⟩ = some (.int .u64 (dgt x 4))
  c6 : w.cell? ⟨b, 6, none⟩ = some (.int .u64 (dgt x 5))
  c7 : w.cell? ⟨b, 7, none⟩ = some (.int .u64 (dgt x 6))
  c8 : w.cell? ⟨b, 8, none⟩ = some (.int .u64 (dgt x 7))
  c9 : w.cell? ⟨b, 9, none⟩ = some (.int .u64 (dgt x 8))
  c10 : w.cell? ⟨b, 10, none⟩ = some (.int .u64 (dgt x 9))

/-- a variable that holds a number: its cells, and that they may be written -/
structure NumAt (w : World) (b : Nat) (m : Bool) (x : Int) : Prop where
  c : IsNum w b m x
  f : ∀ i, w.frozen? ⟨b, i, none⟩ = false
  lt : b < w.heap.size

/-- room for a number: a sign, and ten cells that may be written -/
structure Room (w : World) (b : Nat) (m : Bool) : Prop where
  c0 : w.cell? ⟨b, 0, none⟩ = some (.bool m)
  ex : ∀ j, 1 ≤ j → j ≤ 10 → ∃ v, w.cell? ⟨b, j, none⟩ = some v
  f : ∀ i, w.frozen? ⟨b, i, none⟩ = false
  lt : b < w.heap.size

theorem dgt_zero (i : Nat) : dgt 0 i = 0 := by unfold dgt; simp

theorem far_ne {b c i j : Nat} (h : c ≠ b) : (⟨c, i, none⟩ : Addr) ≠ ⟨b, j, none⟩ := fun e => h (by injection e)
theorem off_ne {b i j : Nat} (h : i ≠ j) : (⟨b, i, none⟩ : Addr) ≠ ⟨b, j, none⟩ := fun e => h (by injection e)

theorem NumAt.room {w : World} {b : Nat} {m : Bool} {x : Int} (h : NumAt w b m x) : Room w b m := by
  refine ⟨h.c.c0, fun j h1 h2 => ?_, h.f, h.lt⟩
  have : j = 1 ∨ j = 2 ∨ j = 3 ∨ j = 4 ∨ j = 5 ∨ j = 6 ∨ j = 7 ∨ j = 8 ∨ j = 9 ∨ j = 10 := by omega
  rcases this with rfl | rfl | rfl | rfl | rfl | rfl | rfl | rfl | rfl | rfl
  · exact ⟨_, h.c.c1⟩
  · exact ⟨_, h.c.c2⟩
  · exact ⟨_, h.c.c3⟩
  · exact ⟨_, h.c.c4⟩
  · exact ⟨_, h.c.c5⟩
  · exact ⟨_, h.c.c6⟩
  · exact ⟨_, h.c.c7⟩
  · exact ⟨_, h.c.c8⟩
  · exact ⟨_, h.c.c9⟩
  · exact ⟨_, h.c.c10⟩

theorem Room.set {w : World} {b : Nat} {m : Bool} (h : Room w b m) (j : Nat) (v : Value) (h1 : 1 ≤ j) : Room (w.setCell ⟨b, j, none⟩ v) b m := by
  refine ⟨?_, fun i h3 h4 => ?_, fun i => ?_, ?_⟩
  · rw [World.cell?_setCell_other w _ _ v (off_ne (by omega))]; exact h.c0
  · obtain ⟨u, hu⟩ := h.ex i h3 h4
    exact cell?_setCell_some hu
  · rw [World.frozen?_setCell]; exact h.f i
  · simpa using h.lt

/-- the ten digits stored, one behind the other -/
abbrev put10 (w : World) (b : Nat) (s : Int) : World := ((((((((((w.setCell ⟨b, 1, none⟩ (.int .u64 (dgt s 0))).setCell ⟨b, 2, none⟩ (.int .u64 (dgt s 1))).setCell ⟨b, 3, none⟩ (.int .u64 (dgt s 2))).setCell ⟨b, 4, none⟩ (.int .u64 (dgt s 3))).setCell ⟨b, 5, none⟩ (.int .u64 (dgt s 4))).setCell ⟨b, 6, none⟩ (.int .u64 (dgt s 5))).setCell ⟨b, 7, none⟩ (.int .u64 (dgt s 6))).setCell ⟨b, 8, none⟩ (.int .u64 (dgt s 7))).setCell ⟨b, 9, none⟩ (.int .u64 (dgt s 8))).setCell ⟨b, 10, none⟩ (.int .u64 (dgt s 9)))

theorem Room.store {w : World} {b : Nat} {m : Bool} (h : Room w b m) (s : Int) : NumAt (put10 w b s) b m s := by
  have r0 := h
  have r1 := r0.set 1 (.int .u64 (dgt s 0)) (by omega)
  have r2 := r1.set 2 (.int .u64 (dgt s 1)) (by omega)
  have r3 := r2.set 3 (.int .u64 (dgt s 2)) (by omega)
  have r4 := r3.set 4 (.int .u64 (dgt s 3)) (by omega)
  have r5 := r4.set 5 (.int .u64 (dgt s 4)) (by omega)
  have r6 := r5.set 6 (.int .u64 (dgt s 5)) (by omega)
  have r7 := r6.set 7 (.int .u64 (dgt s 6)) (by omega)
  have r8 := r7.set 8 (.int .u64 (dgt s 7)) (by omega)
  have r9 := r8.set 9 (.int .u64 (dgt s 8)) (by omega)
  have r10 := r9.set 10 (.int .u64 (dgt s 9)) (by omega)
  refine ⟨⟨r10.c0, ?_, ?_, ?_, ?_, ?_, ?_, ?_, ?_, ?_, ?_⟩, r10.f, r10.lt⟩
  · obtain ⟨u, hu⟩ := r0.ex 1 (by omega) (by omega)
    rw [World.cell?_setCell_other _ _ _ _ (off_ne (by omega))]; rw [World.cell?_setCell_other _ _ _ _ (off_ne (by omega))]; rw [World.cell?_setCell_other _ _ _ _ (off_ne (by omega))]; rw [World.cell?_setCell_other _ _ _ _ (off_ne (by omega))]; rw [World.cell?_setCell_other _ _ _ _ (off_ne (by omega))]; rw [World.cell?_setCell_other _ _ _ _ (off_ne (by omega))]; rw [World.cell?_setCell_other _ _ _ _ (off_ne (by omega))]; rw [World.cell?_setCell_other _ _ _ _ (off_ne (by omega))]; rw [World.cell?_setCell_other _ _ _ _ (off_ne (by omega))]; exact World.cell?_setCell_same _ _ _ hu
  · obtain ⟨u, hu⟩ := r1.ex 2 (by omega) (by omega)
    rw [World.cell?_setCell_other _ _ _ _ (off_ne (by omega))]; rw [World.cell?_setCell_other _ _ _ _ (off_ne (by omega))]; rw [World.cell?_setCell_other _ _ _ _ (off_ne (by omega))]; rw [World.cell?_setCell_other _ _ _ _ (off_ne (by omega))]; rw [World.cell?_setCell_other _ _ _ _ (off_ne (by omega))]; rw [World.cell?_setCell_other _ _ _ _ (off_ne (by omega))]; rw [World.cell?_setCell_other _ _ _ _ (off_ne (by omega))]; rw [World.cell?_setCell_other _ _ _ _ (off_ne (by omega))]; exact World.cell?_setCell_same _ _ _ hu
  · obtain ⟨u, hu⟩ := r2.ex 3 (by omega) (by omega)
    rw [World.cell?_setCell_other _ _ _ _ (off_ne (by omega))]; rw [World.cell?_setCell_other _ _ _ _ (off_ne (by omega))]; rw [World.cell?_setCell_other _ _ _ _ (off_ne (by omega))]; rw [World.cell?_setCell_other _ _ _ _ (off_ne (by omega))]; rw [World.cell?_setCell_other _ _ _ _ (off_ne (by omega))]; rw [World.cell?_setCell_other _ _ _ _ (off_ne (by omega))]; rw [World.cell?_setCell_other _ _ _ _ (off_ne (by omega))]; exact World.cell?_setCell_same _ _ _ hu
  · obtain ⟨u, hu⟩ := r3.ex 4 (by omega) (by omega)
    rw [World.cell?_setCell_other _ _ _ _ (off_ne (by omega))]; rw [World.cell?_setCell_other _ _ _ _ (off_ne (by omega))]; rw [World.cell?_setCell_other _ _ _ _ (off_ne (by omega))]; rw [World.cell?_setCell_other _ _ _ _ (off_ne (by omega))]; rw [World.cell?_setCell_other _ _ _ _ (off_ne (by omega))]; rw [World.cell?_setCell_other _ _ _ _ (off_ne (by omega))]; exact World.cell?_setCell_same _ _ _ hu
  · obtain ⟨u, hu⟩ := r4.ex 5 (by omega) (by omega)
    rw [World.cell?_setCell_other _ _ _ _ (off_ne (by omega))]; rw [World.cell?_setCell_other _ _ _ _ (off_ne (by omega))]; rw [World.cell?_setCell_other _ _ _ _ (off_ne (by omega))]; rw [World.cell?_setCell_other _ _ _ _ (off_ne (by omega))]; rw [World.cell?_setCell_other _ _ _ _ (off_ne (by omega))]; exact World.cell?_setCell_same _ _ _ hu
  · obtain ⟨u, hu⟩ := r5.ex 6 (by omega) (by omega)
    rw [World.cell?_setCell_other _ _ _ _ (off_ne (by omega))]; rw [World.cell?_setCell_other _ _ _ _ (off_ne (by omega))]; rw [World.cell?_setCell_other _ _ _ _ (off_ne (by omega))]; rw [World.cell?_setCell_other _ _ _ _ (off_ne (by omega))]; exact World.cell?_setCell_same _ _ _ hu
  · obtain ⟨u, hu⟩ := r6.ex 7 (by omega) (by omega)
    rw [World.cell?_setCell_other _ _ _ _ (off_ne (by omega))]; rw [World.cell?_setCell_other _ _ _ _ (off_ne (by omega))]; rw [World.cell?_setCell_other _ _ _ _ (off_ne (by omega))]; exact World.cell?_setCell_same _ _ _ hu
  · obtain ⟨u, hu⟩ := r7.ex 8 (by omega) (by omega)
    rw [World.cell?_setCell_other _ _ _ _ (off_ne (by omega))]; rw [World.cell?_setCell_other _ _ _ _ (off_ne (by omega))]; exact World.cell?_setCell_same _ _ _ hu
  · obtain ⟨u, hu⟩ := r8.ex 9 (by omega) (by omega)
    rw [World.cell?_setCell_other _ _ _ _ (off_ne (by omega))]; exact World.cell?_setCell_same _ _ _ hu
  · obtain ⟨u, hu⟩ := r9.ex 10 (by omega) (by omega)
    exact World.cell?_setCell_same _ _ _ hu

theorem NumAt.other {w : World} {b : Nat} {m : Bool} {x : Int} (h : NumAt w b m x) {c j : Nat} (v : Value) (hn : c ≠ b) : NumAt (w.setCell ⟨c, j, none⟩ v) b m x := by
  refine ⟨⟨?_, ?_, ?_, ?_, ?_, ?_, ?_, ?_, ?_, ?_, ?_⟩, fun i => ?_, ?_⟩
  · rw [World.cell?_setCell_other w _ _ v (far_ne hn)]; exact h.c.c0
  · rw [World.cell?_setCell_other w _ _ v (far_ne hn)]; exact h.c.c1
  · rw [World.cell?_setCell_other w _ _ v (far_ne hn)]; exact h.c.c2
  · rw [World.cell?_setCell_other w _ _ v (far_ne hn)]; exact h.c.c3
  · rw [World.cell?_setCell_other w _ _ v (far_ne hn)]; exact h.c.c4
  · rw [World.cell?_setCell_other w _ _ v (far_ne hn)]; exact h.c.c5
  · rw [World.cell?_setCell_other w _ _ v (far_ne hn)]; exact h.c.c6
  · rw [World.cell?_setCell_other w _ _ v (far_ne hn)]; exact h.c.c7
  · rw [World.cell?_setCell_other w _ _ v (far_ne hn)]; exact h.c.c8
  · rw [World.cell?_setCell_other w _ _ v (far_ne hn)]; exact h.c.c9
  · rw [World.cell?_setCell_other w _ _ v (far_ne hn)]; exact h.c.c10
  · rw [World.frozen?_setCell]; exact h.f i
  · simpa using h.lt
theorem NumAt.below {w w' : World} {b : Nat} {m : Bool} {x : Int} (h : NumAt w b m x) (hb : Below w.heap.size w w') : NumAt w' b m x := by
  have hl := h.lt
  refine ⟨⟨?_, ?_, ?_, ?_, ?_, ?_, ?_, ?_, ?_, ?_, ?_⟩, fun i => ?_, Nat.lt_of_lt_of_le hl hb.size⟩
  · rw [hb.cell (p := ⟨b, 0, none⟩) hl]; exact h.c.c0
  · rw [hb.cell (p := ⟨b, 1, none⟩) hl]; exact h.c.c1
  · rw [hb.cell (p := ⟨b, 2, none⟩) hl]; exact h.c.c2
  · rw [hb.cell (p := ⟨b, 3, none⟩) hl]; exact h.c.c3
  · rw [hb.cell (p := ⟨b, 4, none⟩) hl]; exact h.c.c4
  · rw [hb.cell (p := ⟨b, 5, none⟩) hl]; exact h.c.c5
  · rw [hb.cell (p := ⟨b, 6, none⟩) hl]; exact h.c.c6
  · rw [hb.cell (p := ⟨b, 7, none⟩) hl]; exact h.c.c7
  · rw [hb.cell (p := ⟨b, 8, none⟩) hl]; exact h.c.c8
  · rw [hb.cell (p := ⟨b, 9, none⟩) hl]; exact h.c.c9
  · rw [hb.cell (p := ⟨b, 10, none⟩) hl]; exact h.c.c10
  · rw [hb.frozen (p := ⟨b, i, none⟩) hl]; exact h.f i
theorem NumAt.alloc {w : World} {b : Nat} {m : Bool} {x : Int} (h : NumAt w b m x) (o : Obj) : NumAt (w.alloc o) b m x := h.below ((Below.refl _ _).alloc (Nat.le_refl _) o)
theorem NumAt.drewN {w : World} {b : Nat} {m : Bool} {x : Int} (h : NumAt w b m x) (n : Nat) : NumAt (w.drewN n) b m x := h.below (below_drewN (Below.refl _ _) n)
theorem NumAt.drew {w : World} {b : Nat} {m : Bool} {x : Int} (h : NumAt w b m x) : NumAt w.drew b m x := h.below (Below.refl _ _).drew
theorem NumAt.grew {w : World} {b : Nat} {m : Bool} {x : Int} (h : NumAt w b m x) (L : List Obj) : NumAt (grew w L) b m x := h.below (grew_below w L)

end Go.Proofs.Ytaebbfaheaghfaa
