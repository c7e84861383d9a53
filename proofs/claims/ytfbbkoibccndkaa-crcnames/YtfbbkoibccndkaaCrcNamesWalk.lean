/- The walk of falseworklaw07.CrcNames. -/
import Derived.Test.YtfbbkoibccndkaaCrQ
import Derived.Test.YtfbbkoibccndkaaCrP
namespace Go.Proofs.Ytfbbkoibccndkaa
open Go.RowKit Go.Lib

theorem bat_lit (w : World) (l : List UInt8) (vs : Array Value) (t : TypeId) {g : Nat} (hg : g = w.heap.size) (h : vs.toList = bcells l) : BAt (w.alloc (.cells vs t)) (some ⟨g, 0, none⟩) l := by
  subst hg
  exact bat_new w l vs t h
theorem seal_none : sealL [] = [0, 0, 0, 0] := by decide +kernel
set_option maxRecDepth 100000 in
set_option maxHeartbeats 800000 in
theorem crcNames_walk (w : World) : Calls Try.prog 3 #[] w fun e w' => e = .returned (.bool true) ∧ RowKit.Below w.heap.size w w' := by
  have O1 := fun (a : Option Addr) (W : World) => Lib.hid (open_short a 3 3 W (by omega))
  have O2 := fun (W : World) (g : Nat) (h : BAt W (some ⟨g, 0, none⟩) [0, 0, 0, 0]) => Lib.hid (open_in g 0 [] 0 0 0 0 0 4 W h rfl (by omega) (by omega))
  rw [show decide (sealL [] = [0, 0, 0, 0]) = true by rw [seal_none]; rfl] at O2
  have S1 := fun (W : World) => Lib.hid (sum_any 4294967295 W (by omega))
  rw [show sm 4294967295 = 0 by decide] at S1
  go_enter Try.func3, Try.ntmps3
  go_wp2_with fail
  refine (O1 _ _).out.mono ?_
  rintro _ w1 (⟨h, _⟩ | ⟨_, rfl, hb1⟩)
  · cases h
  have HW1 := Lib.hid (((RowKit.Below.refl w.heap.size w).alloc (Nat.le_refl _) _).trans (hb1.mono (by simp)))
  clear hb1
  go_wp2_with fail
  refine (O2 _ _ (bat_lit _ _ _ _ (by simp) rfl)).out.mono ?_
  rintro _ w2 (⟨_, v, rfl, ho, hb2, _⟩ | ⟨h, _⟩)
  rotate_left
  · cases h
  obtain ⟨a2, c2, hv, _⟩ := ho.row
  subst hv
  have HW2 := Lib.hid (HW1.out.trans (((RowKit.Below.refl w1.heap.size w1).alloc (Nat.le_refl _) _).trans (hb2.mono (by simp)) |>.mono HW1.out.size))
  clear ho hb2
  go_wp2_with fail
  refine (alive_any _).mono ?_
  rintro _ w3 ⟨rfl, hb3⟩
  have HW3 := Lib.hid (HW2.out.trans (hb3.mono HW2.out.size))
  clear hb3
  go_wp2_with fail
  refine (start_any _).mono ?_
  rintro _ _ ⟨rfl, rfl⟩
  go_wp2_with fail
  refine (S1 _).out.mono ?_
  rintro _ _ ⟨rfl, rfl⟩
  go_wp2_with fail
  refine (start_any _).mono ?_
  rintro _ _ ⟨rfl, rfl⟩
  go_wp2_with fail
  go_ret
  exact ⟨rfl, HW3.out⟩
end Go.Proofs.Ytfbbkoibccndkaa
