/- Rows of numbers in memory, of the call's own. -/
import Derived.Test.YtaebbfaheaghfaaSortBase
import Derived.Test.YtaebbfaheaghfaaOwnInts
import Derived.Laws.MakeOwn
namespace Go.Proofs.Ytaebbfaheaghfaa
open Go.RowKit Go.Shelf Go.Sort

/-- n numbers lie in block b, and may be written -/
structure IntsAt (w : World) (b n : Nat) (f : Nat → Int) : Prop where
  c : ∀ j, j < n → w.cell? ⟨b, j, none⟩ = some (.int .i64 (f j))
  fz : ∀ j, j < n → w.frozen? ⟨b, j, none⟩ = false
  lt : b < w.heap.size

theorem IntsAt.below {w w' : World} {b n : Nat} {f : Nat → Int} (h : IntsAt w b n f) (hb : Below w.heap.size w w') : IntsAt w' b n f :=
  ⟨fun j hj => by rw [hb.cell (p := ⟨b, j, none⟩) h.lt]; exact h.c j hj, fun j hj => by rw [hb.frozen (p := ⟨b, j, none⟩) h.lt]; exact h.fz j hj, Nat.lt_of_lt_of_le h.lt hb.size⟩
theorem IntsAt.of {w w' : World} {b n : Nat} {f : Nat → Int} {base : Nat} (h : IntsAt w b n f) (hb : Below base w w') (hlt : b < base) : IntsAt w' b n f :=
  ⟨fun j hj => by rw [hb.cell (p := ⟨b, j, none⟩) hlt]; exact h.c j hj, fun j hj => by rw [hb.frozen (p := ⟨b, j, none⟩) hlt]; exact h.fz j hj, Nat.lt_of_lt_of_le h.lt hb.size⟩
theorem IntsAt.set {w : World} {b n : Nat} {f : Nat → Int} (h : IntsAt w b n f) (i : Nat) (hi : i < n) (v : Int) : IntsAt (w.setCell ⟨b, i, none⟩ (.int .i64 v)) b n (fun j => if j = i then v else f j) := by
  refine ⟨fun j hj => ?_, fun j hj => ?_, by simpa using h.lt⟩
  · by_cases e : j = i
    · subst e; rw [if_pos rfl]; exact World.cell?_setCell_same _ _ _ (h.c j hj)
    · rw [if_neg e, World.cell?_setCell_other _ _ _ _ (fun e' => e (by injection e'; omega))]; exact h.c j hj
  · rw [World.frozen?_setCell]; exact h.fz j hj
theorem IntsAt.other {w : World} {b n : Nat} {f : Nat → Int} (h : IntsAt w b n f) (c i : Nat) (hc : c ≠ b) (v : Value) : IntsAt (w.setCell ⟨c, i, none⟩ v) b n f := by
  refine ⟨fun j hj => ?_, fun j hj => ?_, by simpa using h.lt⟩
  · rw [World.cell?_setCell_other _ _ _ _ (fun e' => hc (by injection e'))]; exact h.c j hj
  · rw [World.frozen?_setCell]; exact h.fz j hj
theorem IntsAt.congr {w : World} {b n : Nat} {f g : Nat → Int} (h : IntsAt w b n f) (e : ∀ j, j < n → f j = g j) : IntsAt w b n g := ⟨fun j hj => by rw [← e j hj]; exact h.c j hj, h.fz, h.lt⟩
theorem IntsAt.drew {w : World} {b n : Nat} {f : Nat → Int} (h : IntsAt w b n f) : IntsAt w.drew b n f := h.below (Below.refl _ _).drew
theorem IntsAt.drewN {w : World} {b n : Nat} {f : Nat → Int} (h : IntsAt w b n f) (k : Nat) : IntsAt (w.drewN k) b n f := h.below (below_drewN (Below.refl _ _) k)

/-- as many zeros -/
def zeroRow (n : Nat) (t : TypeId) : Obj := .cells (madeCells #[.int .i64 0] n) t
theorem zeros_get (n j : Nat) (h : j < n) : (madeCells #[Value.int .i64 0] n)[j]? = some (.int .i64 0) := by
  unfold madeCells
  simp [h, Nat.mod_one]
theorem IntsAt.made (w : World) (n : Nat) (t : TypeId) : IntsAt (w.alloc (zeroRow n t)) w.heap.size n (fun _ => 0) := by
  have hb : (w.alloc (zeroRow n t)).heap[w.heap.size]? = some (.cells (madeCells #[.int .i64 0] n) t) := heap_alloc_new w _
  refine ⟨fun j hj => ?_, fun j hj => ?_, by simp⟩
  · rw [cell_of_row _ w.heap.size j _ t (0, 0) hb]
    exact zeros_get n j hj
  · unfold World.frozen?
    rw [hb]
    rfl
theorem infoInt : ∃ i, Try.prog.info? 3 = some i ∧ i.zero = some (.int .i64 0) ∧ i.size = 1 ∧ i.bytes = 8 := by
  have h : (Try.prog.info? 3).map (fun i => (i.zero, i.size, i.bytes)) = some (some (.int .i64 0), 1, 8) := by kernel_rfl
  cases hi : Try.prog.info? 3 with
  | none => rw [hi] at h; cases h
  | some i =>
    rw [hi] at h
    simp only [Option.map_some, Option.some.injEq, Prod.mk.injEq] at h
    exact ⟨i, rfl, h.1, h.2.1, h.2.2⟩
theorem mk_int (n : Nat) (hn : n ≤ 1000000) (w : World) : (Instr.makeSlice 71 (.int .i64 (n : Int)) (.int .i64 (n : Int))).run Try.prog w = .ok (.slice (some ⟨w.heap.size, 0, none⟩) n n) (w.alloc (zeroRow n 3)) := by
  obtain ⟨i, hi, hz, h1, h8⟩ := infoInt
  have h := run_make (P := Try.prog) w 71 3 i (.int .i64 0) Try.underlying71 hi hz .i64 .i64 n n (by omega) (Int.le_refl _) (by rw [h8]; omega) (by omega)
  rw [h1, Nat.mul_one, Int.toNat_natCast] at h
  exact h
theorem mk_int64 (n : Nat) (hn : n ≤ 1000000) (w : World) : (Instr.makeSlice 40 (.int .i64 (n : Int)) (.int .i64 (n : Int))).run Try.prog w = .ok (.slice (some ⟨w.heap.size, 0, none⟩) n n) (w.alloc (zeroRow n 2)) := by
  obtain ⟨i, hi, hz, h1, h8⟩ := info64
  have h := run_make (P := Try.prog) w 40 2 i (.int .i64 0) Try.underlying40 hi hz .i64 .i64 n n (by omega) (Int.le_refl _) (by rw [h8]; omega) (by omega)
  rw [h1, Nat.mul_one, Int.toNat_natCast] at h
  exact h

theorem sw_cell {n : Nat} {w0 W : World} {blk : Nat} {d : Array (Fin (n + 1))} (h : SW encP w0 blk 0 d W) (c o : Nat) (hc : c ≠ blk) (hl : c < w0.heap.size) : W.cell? ⟨c, o, none⟩ = w0.cell? ⟨c, o, none⟩ := by
  obtain ⟨m, os, rfl⟩ := h
  unfold sortWorld
  rw [cell?_grow _ _ _ (by rw [size_putRow]; exact hl), cell?_putRow_other _ _ _ _ _ _ (Or.inl hc)]
  rfl

theorem sw_below {n : Nat} {w0 W : World} {blk base : Nat} {d : Array (Fin (n + 1))} (h : SW encP w0 blk 0 d W) (hb : base ≤ blk) (hl : base ≤ w0.heap.size) : Below base w0 W := by
  have hle := h.le
  obtain ⟨m, os, rfl⟩ := h
  refine ⟨rfl, rfl, rfl, hle, fun k hk => ?_⟩
  unfold sortWorld
  rw [heap_grow_old _ _ (by rw [size_putRow]; show k < w0.heap.size; omega)]
  show (w0.heap.modify blk _)[k]? = _
  rw [Array.getElem?_modify, if_neg (by omega)]

/-- the program's comparison, in whatever world of the sort's -/
theorem cmp_lays {n : Nat} {r : Fin (n + 1) → Int} {w0 : World} {bb rb blk : Nat} (size : Nat) (h1 : bb ≠ blk) (h2 : rb ≠ blk) (l1 : bb < w0.heap.size) (l2 : rb < w0.heap.size)
    (hh : w0.cell? ⟨bb, 0, none⟩ = some (.slice (some ⟨rb, 0, none⟩) (n + 1) (n + 1))) (hc : ∀ k : Fin (n + 1), w0.cell? ⟨rb, k.val, none⟩ = some (.int .i64 (r k))) :
    CmpLays1 Try.prog gP #[.pointer (some ⟨bb, 0, none⟩)] encP (cfP r) blk 0 size w0 := by
  intro m os dk hs x y
  have S : SW encP w0 blk 0 dk (sortWorld encP w0 blk 0 m dk os) := ⟨m, os, rfl⟩
  refine (closure_any n bb rb r x y _ (by rw [sw_cell S bb 0 h1 l1]; exact hh) (fun k => by rw [sw_cell S rb k.val h2 l2]; exact hc k)).mono ?_
  rintro e w' ⟨rfl, q, rfl⟩
  exact ⟨rfl, q, #[], by rw [grow_empty]⟩
end Go.Proofs.Ytaebbfaheaghfaa
