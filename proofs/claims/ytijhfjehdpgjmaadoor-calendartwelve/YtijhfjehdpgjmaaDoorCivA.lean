/- Leap and Length, of the program and of the document's answer. -/
import Derived.Test.YtijhfjehdpgjmaaDoorCivMath
import Derived.Test.YtijhfjehdpgjmaaDoorRows
import Derived.WalkKit
import Derived.ProofKit
import Derived.OpenShut
import Derived.Below
import Derived.Lib.Hide
import Derived.Handy
import Derived.Deep.LoopGhost
import Derived.Lib.LaidTab
import Derived.Deep.QuietTactic
import Derived.Shelf.SlSortCmp.QuietGrown
namespace Go.Proofs.YtijhfjehdpgjmaaDoor
open Go.RowKit Go.Sort

def lensL : List Int := [31, 28, 31, 30, 31, 30, 31, 31, 30, 31, 30, 31]
/-- the table of the months' lengths lies in memory -/
def Lens (w : World) : Prop := 0 < w.heap.size ∧ ∀ i, i < 12 → w.cell? ⟨0, i, none⟩ = some (.int .i64 (lensL.getD i 0))
theorem Lens.below {w w' : World} (h : Lens w) (hb : Below w.heap.size w w') : Lens w' :=
  ⟨Nat.lt_of_lt_of_le h.1 hb.size, fun i hi => by rw [hb.cell (p := ⟨0, i, none⟩) h.1]; exact h.2 i hi⟩
/-- some draws and some new blocks -/
def Gr (w w' : World) : Prop := ∃ q os, w' = grow (w.drewN q) os
theorem Gr.refl (w : World) : Gr w w := ⟨0, #[], by rw [grow_empty]; rfl⟩
theorem Gr.trans {a b c : World} (h : Gr a b) (k : Gr b c) : Gr a c := by
  obtain ⟨q, os, rfl⟩ := h
  obtain ⟨q2, os2, rfl⟩ := k
  exact ⟨q + q2, os ++ os2, by show grow (grow ((a.drewN q).drewN q2) os) os2 = _; rw [grow_grow, World.drewN_drewN]⟩
theorem Gr.alloc {a b : World} (h : Gr a b) (o : Obj) : Gr a (b.alloc o) := h.trans ⟨0, #[o], by rw [alloc_eq_grow]; rfl⟩
theorem Gr.drewN {a b : World} (h : Gr a b) (n : Nat) : Gr a (b.drewN n) := h.trans ⟨n, #[], by rw [grow_empty]⟩
theorem Gr.drew {a b : World} (h : Gr a b) : Gr a b.drew := h.trans ⟨1, #[], by rw [grow_empty]; rfl⟩
theorem Gr.grow {a b : World} (h : Gr a b) (n : Nat) (os : Array Obj) : Gr a (Sort.grow (b.drewN n) os) := h.trans ⟨n, os, rfl⟩
theorem Gr.setCell {a b : World} (h : Gr a b) {p : Addr} (hp : a.heap.size ≤ p.block) (v : Value) : Gr a (b.setCell p v) := by
  obtain ⟨q, os, rfl⟩ := h
  refine ⟨q, ?_⟩
  unfold World.setCell Sort.grow
  simp only [World.heap_drewN]
  exact ⟨_, by rw [modify_append_right _ _ _ _ hp]⟩
theorem Gr.below {a b : World} (h : Gr a b) : Below a.heap.size a b := by
  obtain ⟨q, os, rfl⟩ := h
  exact ⟨rfl, rfl, rfl, by simp, fun k hk => by rw [heap_grow_old _ _ (by simpa using hk)]; rfl⟩
theorem Gr.size {a b : World} (h : Gr a b) : a.heap.size ≤ b.heap.size := h.below.size
theorem Lens.gr {w w' : World} (h : Lens w) (hb : Gr w w') : Lens w' := h.below hb.below
theorem Calls.gr_of {P : Program} {f : FuncId} {args : Array Value} {w : World} {n : Nat} {os : Array Obj} {v : Value}
    (h : Calls P f args (grow (w.drewN n) os) fun e w' => e = .returned v ∧ Gr (grow (w.drewN n) os) w') : Calls P f args (grow (w.drewN n) os) fun e w'' => e = .returned v ∧ ∃ p : GrownBy, w'' = grow (w.drewN p.n) p.os := Calls.grown_of h
theorem Calls.gr_of_same {P : Program} {f : FuncId} {args : Array Value} {w : World} {n : Nat} {os : Array Obj} {v : Value}
    (h : Calls P f args (grow (w.drewN n) os) fun e w' => e = .returned v ∧ grow (w.drewN n) os = w') : Calls P f args (grow (w.drewN n) os) fun e w'' => e = .returned v ∧ ∃ p : GrownBy, w'' = grow (w.drewN p.n) p.os :=
  Calls.grown_of (h.mono fun _ _ ⟨he, hw⟩ => ⟨he, hw ▸ Gr.refl _⟩)
theorem Calls.same' {P : Program} {f : FuncId} {args : Array Value} {w : World} {n : Nat} {v : Value}
    (h : Calls P f args (w.drewN n) fun e w' => e = .returned v ∧ w.drewN n = w') : Calls P f args (w.drewN n) fun e w'' => e = .returned v ∧ ∃ m, w'' = w.drewN m :=
  h.mono fun _ _ ⟨he, hm⟩ => ⟨he, n, hm.symm⟩
/-- a number that fits -/
def I (n : Int) : Prop := -9223372036854775808 ≤ n ∧ n ≤ 9223372036854775807
theorem ret_bool {a b : Bool} (h : a = b) : Ending.returned (.bool a) = .returned (.bool b) := by rw [h]
theorem ret_int {a b : Int} (h : a = b) : Ending.returned (.int .i64 a) = .returned (.int .i64 b) := by rw [h]

theorem tmod_zero (y k : Int) : (y.tmod k = 0) = (y % k = 0) := by
  rw [← Int.dvd_iff_tmod_eq_zero, ← Int.dvd_iff_emod_eq_zero]

set_option maxHeartbeats 400000 in
theorem leap_any (y : Int) (w : World) (h : I y) : Calls Tryd.prog 41 #[.int .i64 y] w fun e w' => e = .returned (.bool (decide (leapP y))) ∧ w = w' := by
  obtain ⟨h0, h1⟩ := h
  have HL := Lib.hid (show leapP y = ((y.tmod 4 = 0 ∧ ¬ y.tmod 100 = 0) ∨ y.tmod 400 = 0) by simp only [tmod_zero, leapP, ne_eq])
  go_enter Tryd.func41, Tryd.ntmps41
  go_wp2
  all_goals go_ret
  all_goals
    refine ⟨ret_bool ?_, rfl⟩
    have HLo := HL.out
    simp_all
    try rfl

set_option maxHeartbeats 400000 in
theorem rleap_any (y : Int) (w : World) (h : I y) : Calls Tryd.prog 38 #[.int .i64 y] w fun e w' => e = .returned (.bool (decide (leapP y))) ∧ w = w' := by
  obtain ⟨h0, h1⟩ := h
  have HL := Lib.hid (show leapP y = ((y.tmod 4 = 0 ∧ ¬ y.tmod 100 = 0) ∨ y.tmod 400 = 0) by simp only [tmod_zero, leapP, ne_eq])
  go_enter Tryd.func38, Tryd.ntmps38
  go_wp2
  all_goals go_ret
  all_goals
    refine ⟨ret_bool ?_, rfl⟩
    have HLo := HL.out
    simp_all
    try rfl

theorem len_1 (y : Int) (w : World) (c : w.cell? ⟨0, 0, none⟩ = some (.int .i64 31)) : Calls Tryd.prog 31 #[.int .i64 y, .int .i64 1] w fun e w' => e = .returned (.int .i64 31) ∧ w = w' := by
  go_enter Tryd.func31, Tryd.ntmps31
  go_wp2
  go_ret
  exact ⟨rfl, rfl⟩
theorem len_3 (y : Int) (w : World) (c : w.cell? ⟨0, 2, none⟩ = some (.int .i64 31)) : Calls Tryd.prog 31 #[.int .i64 y, .int .i64 3] w fun e w' => e = .returned (.int .i64 31) ∧ w = w' := by
  go_enter Tryd.func31, Tryd.ntmps31
  go_wp2
  go_ret
  exact ⟨rfl, rfl⟩
theorem len_4 (y : Int) (w : World) (c : w.cell? ⟨0, 3, none⟩ = some (.int .i64 30)) : Calls Tryd.prog 31 #[.int .i64 y, .int .i64 4] w fun e w' => e = .returned (.int .i64 30) ∧ w = w' := by
  go_enter Tryd.func31, Tryd.ntmps31
  go_wp2
  go_ret
  exact ⟨rfl, rfl⟩
theorem len_5 (y : Int) (w : World) (c : w.cell? ⟨0, 4, none⟩ = some (.int .i64 31)) : Calls Tryd.prog 31 #[.int .i64 y, .int .i64 5] w fun e w' => e = .returned (.int .i64 31) ∧ w = w' := by
  go_enter Tryd.func31, Tryd.ntmps31
  go_wp2
  go_ret
  exact ⟨rfl, rfl⟩
theorem len_6 (y : Int) (w : World) (c : w.cell? ⟨0, 5, none⟩ = some (.int .i64 30)) : Calls Tryd.prog 31 #[.int .i64 y, .int .i64 6] w fun e w' => e = .returned (.int .i64 30) ∧ w = w' := by
  go_enter Tryd.func31, Tryd.ntmps31
  go_wp2
  go_ret
  exact ⟨rfl, rfl⟩
theorem len_7 (y : Int) (w : World) (c : w.cell? ⟨0, 6, none⟩ = some (.int .i64 31)) : Calls Tryd.prog 31 #[.int .i64 y, .int .i64 7] w fun e w' => e = .returned (.int .i64 31) ∧ w = w' := by
  go_enter Tryd.func31, Tryd.ntmps31
  go_wp2
  go_ret
  exact ⟨rfl, rfl⟩
theorem len_8 (y : Int) (w : World) (c : w.cell? ⟨0, 7, none⟩ = some (.int .i64 31)) : Calls Tryd.prog 31 #[.int .i64 y, .int .i64 8] w fun e w' => e = .returned (.int .i64 31) ∧ w = w' := by
  go_enter Tryd.func31, Tryd.ntmps31
  go_wp2
  go_ret
  exact ⟨rfl, rfl⟩
theorem len_9 (y : Int) (w : World) (c : w.cell? ⟨0, 8, none⟩ = some (.int .i64 30)) : Calls Tryd.prog 31 #[.int .i64 y, .int .i64 9] w fun e w' => e = .returned (.int .i64 30) ∧ w = w' := by
  go_enter Tryd.func31, Tryd.ntmps31
  go_wp2
  go_ret
  exact ⟨rfl, rfl⟩
theorem len_10 (y : Int) (w : World) (c : w.cell? ⟨0, 9, none⟩ = some (.int .i64 31)) : Calls Tryd.prog 31 #[.int .i64 y, .int .i64 10] w fun e w' => e = .returned (.int .i64 31) ∧ w = w' := by
  go_enter Tryd.func31, Tryd.ntmps31
  go_wp2
  go_ret
  exact ⟨rfl, rfl⟩
theorem len_11 (y : Int) (w : World) (c : w.cell? ⟨0, 10, none⟩ = some (.int .i64 30)) : Calls Tryd.prog 31 #[.int .i64 y, .int .i64 11] w fun e w' => e = .returned (.int .i64 30) ∧ w = w' := by
  go_enter Tryd.func31, Tryd.ntmps31
  go_wp2
  go_ret
  exact ⟨rfl, rfl⟩
theorem len_12 (y : Int) (w : World) (c : w.cell? ⟨0, 11, none⟩ = some (.int .i64 31)) : Calls Tryd.prog 31 #[.int .i64 y, .int .i64 12] w fun e w' => e = .returned (.int .i64 31) ∧ w = w' := by
  go_enter Tryd.func31, Tryd.ntmps31
  go_wp2
  go_ret
  exact ⟨rfl, rfl⟩
theorem len_2 (y : Int) (w : World) (h : I y) (c : w.cell? ⟨0, 1, none⟩ = some (.int .i64 28)) : Calls Tryd.prog 31 #[.int .i64 y, .int .i64 2] w fun e w' => e = .returned (.int .i64 (if leapP y then 29 else 28)) ∧ w = w' := by
  by_cases hy : leapP y
  · have C : ∀ W, Hid (Calls Tryd.prog 41 #[.int .i64 y] W fun e w' => e = .returned (.bool true) ∧ W = w') := fun W => Lib.hid (by have := leap_any y W h; simpa only [decide_eq_true_iff, hy, decide_true, decide_false] using this)
    have HY := Lib.hid hy
    clear hy h
    go_enter Tryd.func31, Tryd.ntmps31
    go_wp2_with fail
    refine (C _).out.mono ?_
    rintro e w1 ⟨rfl, rfl⟩
    go_wp2
    go_ret
    first | exact ⟨rfl, rfl⟩ | exact ⟨by rw [if_pos HY.out]; rfl, rfl⟩
  · have C : ∀ W, Hid (Calls Tryd.prog 41 #[.int .i64 y] W fun e w' => e = .returned (.bool false) ∧ W = w') := fun W => Lib.hid (by have := leap_any y W h; simpa only [decide_eq_true_iff, hy, decide_true, decide_false] using this)
    have HY := Lib.hid hy
    clear hy h
    go_enter Tryd.func31, Tryd.ntmps31
    go_wp2_with fail
    refine (C _).out.mono ?_
    rintro e w1 ⟨rfl, rfl⟩
    go_wp2
    go_ret
    first | exact ⟨rfl, rfl⟩ | exact ⟨by rw [if_neg HY.out]; rfl, rfl⟩
theorem len_out (y m : Int) (w : World) (hm : m < 1 ∨ 12 < m) : Calls Tryd.prog 31 #[.int .i64 y, .int .i64 m] w fun e w' => e = .returned (.int .i64 0) ∧ w = w' := by
  by_cases h1 : m < 1
  · clear hm
    go_enter Tryd.func31, Tryd.ntmps31
    go_wp2
    go_ret
    exact ⟨rfl, rfl⟩
  · have h2 : 12 < m := by omega
    clear hm
    go_enter Tryd.func31, Tryd.ntmps31
    go_wp2
    go_ret
    exact ⟨rfl, rfl⟩
theorem length_any (y m : Int) (w : World) (h : I y) (hL : Lens w) : Calls Tryd.prog 31 #[.int .i64 y, .int .i64 m] w fun e w' => e = .returned (.int .i64 (lenF y m)) ∧ w = w' := by
  by_cases hm : m < 1 ∨ 12 < m
  · rw [lenF_out y m hm]; exact len_out y m w hm
  · have hm' : m = 1 ∨ m = 2 ∨ m = 3 ∨ m = 4 ∨ m = 5 ∨ m = 6 ∨ m = 7 ∨ m = 8 ∨ m = 9 ∨ m = 10 ∨ m = 11 ∨ m = 12 := by omega
    rcases hm' with rfl | rfl | rfl | rfl | rfl | rfl | rfl | rfl | rfl | rfl | rfl | rfl
    · exact len_1 y w (hL.2 0 (by decide))
    · exact len_2 y w h (hL.2 1 (by decide))
    · exact len_3 y w (hL.2 2 (by decide))
    · exact len_4 y w (hL.2 3 (by decide))
    · exact len_5 y w (hL.2 4 (by decide))
    · exact len_6 y w (hL.2 5 (by decide))
    · exact len_7 y w (hL.2 6 (by decide))
    · exact len_8 y w (hL.2 7 (by decide))
    · exact len_9 y w (hL.2 8 (by decide))
    · exact len_10 y w (hL.2 9 (by decide))
    · exact len_11 y w (hL.2 10 (by decide))
    · exact len_12 y w (hL.2 11 (by decide))
theorem rlen_1 (y : Int) (w : World) : Calls Tryd.prog 27 #[.int .i64 y, .int .i64 1] w fun e w' => e = .returned (.int .i64 31) ∧ w = w' := by
  go_enter Tryd.func27, Tryd.ntmps27
  go_wp2
  go_ret
  exact ⟨rfl, rfl⟩
theorem rlen_3 (y : Int) (w : World) : Calls Tryd.prog 27 #[.int .i64 y, .int .i64 3] w fun e w' => e = .returned (.int .i64 31) ∧ w = w' := by
  go_enter Tryd.func27, Tryd.ntmps27
  go_wp2
  go_ret
  exact ⟨rfl, rfl⟩
theorem rlen_4 (y : Int) (w : World) : Calls Tryd.prog 27 #[.int .i64 y, .int .i64 4] w fun e w' => e = .returned (.int .i64 30) ∧ w = w' := by
  go_enter Tryd.func27, Tryd.ntmps27
  go_wp2
  go_ret
  exact ⟨rfl, rfl⟩
theorem rlen_5 (y : Int) (w : World) : Calls Tryd.prog 27 #[.int .i64 y, .int .i64 5] w fun e w' => e = .returned (.int .i64 31) ∧ w = w' := by
  go_enter Tryd.func27, Tryd.ntmps27
  go_wp2
  go_ret
  exact ⟨rfl, rfl⟩
theorem rlen_6 (y : Int) (w : World) : Calls Tryd.prog 27 #[.int .i64 y, .int .i64 6] w fun e w' => e = .returned (.int .i64 30) ∧ w = w' := by
  go_enter Tryd.func27, Tryd.ntmps27
  go_wp2
  go_ret
  exact ⟨rfl, rfl⟩
theorem rlen_7 (y : Int) (w : World) : Calls Tryd.prog 27 #[.int .i64 y, .int .i64 7] w fun e w' => e = .returned (.int .i64 31) ∧ w = w' := by
  go_enter Tryd.func27, Tryd.ntmps27
  go_wp2
  go_ret
  exact ⟨rfl, rfl⟩
theorem rlen_8 (y : Int) (w : World) : Calls Tryd.prog 27 #[.int .i64 y, .int .i64 8] w fun e w' => e = .returned (.int .i64 31) ∧ w = w' := by
  go_enter Tryd.func27, Tryd.ntmps27
  go_wp2
  go_ret
  exact ⟨rfl, rfl⟩
theorem rlen_9 (y : Int) (w : World) : Calls Tryd.prog 27 #[.int .i64 y, .int .i64 9] w fun e w' => e = .returned (.int .i64 30) ∧ w = w' := by
  go_enter Tryd.func27, Tryd.ntmps27
  go_wp2
  go_ret
  exact ⟨rfl, rfl⟩
theorem rlen_10 (y : Int) (w : World) : Calls Tryd.prog 27 #[.int .i64 y, .int .i64 10] w fun e w' => e = .returned (.int .i64 31) ∧ w = w' := by
  go_enter Tryd.func27, Tryd.ntmps27
  go_wp2
  go_ret
  exact ⟨rfl, rfl⟩
theorem rlen_11 (y : Int) (w : World) : Calls Tryd.prog 27 #[.int .i64 y, .int .i64 11] w fun e w' => e = .returned (.int .i64 30) ∧ w = w' := by
  go_enter Tryd.func27, Tryd.ntmps27
  go_wp2
  go_ret
  exact ⟨rfl, rfl⟩
theorem rlen_12 (y : Int) (w : World) : Calls Tryd.prog 27 #[.int .i64 y, .int .i64 12] w fun e w' => e = .returned (.int .i64 31) ∧ w = w' := by
  go_enter Tryd.func27, Tryd.ntmps27
  go_wp2
  go_ret
  exact ⟨rfl, rfl⟩
theorem rlen_2 (y : Int) (w : World) (h : I y) : Calls Tryd.prog 27 #[.int .i64 y, .int .i64 2] w fun e w' => e = .returned (.int .i64 (if leapP y then 29 else 28)) ∧ w = w' := by
  by_cases hy : leapP y
  · have C : ∀ W, Hid (Calls Tryd.prog 38 #[.int .i64 y] W fun e w' => e = .returned (.bool true) ∧ W = w') := fun W => Lib.hid (by have := rleap_any y W h; simpa only [decide_eq_true_iff, hy, decide_true, decide_false] using this)
    have HY := Lib.hid hy
    clear hy h
    go_enter Tryd.func27, Tryd.ntmps27
    go_wp2_with fail
    refine (C _).out.mono ?_
    rintro e w1 ⟨rfl, rfl⟩
    go_wp2
    go_ret
    first | exact ⟨rfl, rfl⟩ | exact ⟨by rw [if_pos HY.out]; rfl, rfl⟩
  · have C : ∀ W, Hid (Calls Tryd.prog 38 #[.int .i64 y] W fun e w' => e = .returned (.bool false) ∧ W = w') := fun W => Lib.hid (by have := rleap_any y W h; simpa only [decide_eq_true_iff, hy, decide_true, decide_false] using this)
    have HY := Lib.hid hy
    clear hy h
    go_enter Tryd.func27, Tryd.ntmps27
    go_wp2_with fail
    refine (C _).out.mono ?_
    rintro e w1 ⟨rfl, rfl⟩
    go_wp2
    go_ret
    first | exact ⟨rfl, rfl⟩ | exact ⟨by rw [if_neg HY.out]; rfl, rfl⟩
set_option maxHeartbeats 1000000 in
theorem rlen_out (y m : Int) (w : World) (hm : m < 1 ∨ 12 < m) : Calls Tryd.prog 27 #[.int .i64 y, .int .i64 m] w fun e w' => e = .returned (.int .i64 0) ∧ w = w' := by
  obtain ⟨n1, n2, n3, n4, n5, n6, n7, n8, n9, n10, n11, n12⟩ : m ≠ 1 ∧ m ≠ 2 ∧ m ≠ 3 ∧ m ≠ 4 ∧ m ≠ 5 ∧ m ≠ 6 ∧ m ≠ 7 ∧ m ≠ 8 ∧ m ≠ 9 ∧ m ≠ 10 ∧ m ≠ 11 ∧ m ≠ 12 := by omega
  clear hm
  go_enter Tryd.func27, Tryd.ntmps27
  go_wp2
  go_ret
  exact ⟨rfl, rfl⟩
theorem rlength_any (y m : Int) (w : World) (h : I y) : Calls Tryd.prog 27 #[.int .i64 y, .int .i64 m] w fun e w' => e = .returned (.int .i64 (lenF y m)) ∧ w = w' := by
  by_cases hm : m < 1 ∨ 12 < m
  · rw [lenF_out y m hm]; exact rlen_out y m w hm
  · have hm' : m = 1 ∨ m = 2 ∨ m = 3 ∨ m = 4 ∨ m = 5 ∨ m = 6 ∨ m = 7 ∨ m = 8 ∨ m = 9 ∨ m = 10 ∨ m = 11 ∨ m = 12 := by omega
    rcases hm' with rfl | rfl | rfl | rfl | rfl | rfl | rfl | rfl | rfl | rfl | rfl | rfl
    · exact rlen_1 y w
    · exact rlen_2 y w h
    · exact rlen_3 y w
    · exact rlen_4 y w
    · exact rlen_5 y w
    · exact rlen_6 y w
    · exact rlen_7 y w
    · exact rlen_8 y w
    · exact rlen_9 y w
    · exact rlen_10 y w
    · exact rlen_11 y w
    · exact rlen_12 y w
end Go.Proofs.YtijhfjehdpgjmaaDoor
