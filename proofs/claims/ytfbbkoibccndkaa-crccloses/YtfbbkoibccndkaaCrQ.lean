/- falseworklaw07.crcAlive. -/
import Derived.Test.YtfbbkoibccndkaaCrI
import Derived.Test.YtfbbkoibccndkaaCrK
import Derived.Lib.SlBytesConst
namespace Go.Proofs.Ytfbbkoibccndkaa
open Go.RowKit Go.Lib

theorem alive_sum : sm (ad (ad 4294967295 [49, 50, 51, 52]) [53, 54, 55, 56, 57]) = 3421780262 := by decide +kernel
theorem alive_join : jn (sm (ad 4294967295 [49, 50, 51, 52])) (sm (ad 4294967295 [53, 54, 55, 56, 57])) 5 = 3421780262 := by
  have := jn_sum (ad 4294967295 [49, 50, 51, 52]) [53, 54, 55, 56, 57]
  rw [alive_sum] at this
  exact this
/-- the sum, once more; the world is named last -/
theorem start_eq (w : World) : Calls Try.prog 9 #[] w fun e w' => e = .returned (.int .u32 4294967295) ∧ w = w' := start_any w
/-- bytes that were just laid, and marked -/
theorem bat_mark (w : World) (l : List UInt8) (vs : Array Value) (t : TypeId) (fr : Nat × Nat) {g : Nat} (hg : g = w.heap.size) (h : vs.toList = bcells l) : BAt (w.alloc (.cells vs t fr)) (some ⟨g, 0, none⟩) l := by
  subst hg
  refine Or.inr ⟨w.heap.size, 0, rfl, by simp, fun i hi => ?_⟩
  rw [Nat.zero_add, cell_of_row _ _ _ vs t fr (blk0 _ _), ← Array.getElem?_toList, h, bcells_get hi]
theorem conv_const (W : World) (C : Array Value) (g n c : Nat) (hg : g = W.heap.size) : (convert 22 22 (.slice (some ⟨g, 0, none⟩) n c)).run Try.prog (W.alloc (.cells C 5)) = .ok (.slice (some ⟨g, 0, none⟩) n c) (W.alloc (.cells C 5 (C.size, C.size + 1))) := by
  subst hg
  exact run_convert_bytes_const (P := Try.prog) W 22 5 C n c Try.underlying22 Try.underlying5
set_option maxRecDepth 100000 in
set_option maxHeartbeats 800000 in
theorem alive_any (w : World) : Calls Try.prog 8 #[] w fun e w' => e = .returned (.bool true) ∧ RowKit.Below w.heap.size w w' := by
  obtain ⟨p, hp⟩ : ∃ p, p = ad 4294967295 [49, 50, 51, 52] := ⟨_, rfl⟩
  obtain ⟨q, hq⟩ : ∃ q, q = ad 4294967295 [53, 54, 55, 56, 57] := ⟨_, rfl⟩
  have p1 : p < 4294967296 := by rw [hp]; exact ad_lt (by omega) _
  have q1 : q < 4294967296 := by rw [hq]; exact ad_lt (by omega) _
  have cv := conv_const
  have C1 := fun (W : World) (g : Nat) (h : BAt W (some ⟨g, 0, none⟩) [49, 50, 51, 52]) => Lib.hid (add_any 4294967295 _ [49, 50, 51, 52] 4 4 W (by omega) h rfl (by omega))
  have C2 := fun (W : World) (g : Nat) (h : BAt W (some ⟨g, 0, none⟩) [53, 54, 55, 56, 57]) => Lib.hid (add_any 4294967295 _ [53, 54, 55, 56, 57] 5 5 W (by omega) h rfl (by omega))
  have C3 := fun (W : World) (g : Nat) (h : BAt W (some ⟨g, 0, none⟩) [53, 54, 55, 56, 57]) => Lib.hid (add_any p _ [53, 54, 55, 56, 57] 5 5 W p1 h rfl (by omega))
  have S1 := fun (W : World) => Lib.hid (sum_any (ad p [53, 54, 55, 56, 57]) W (ad_lt p1 _))
  have S2 := fun (W : World) => Lib.hid (sum_any p W p1)
  have S3 := fun (W : World) => Lib.hid (sum_any q W q1)
  have J := fun (W : World) => Lib.hid (join_any (sm p) (sm q) 5 W (sm_lt p1) (sm_lt q1) (by omega))
  rw [show jn (sm p) (sm q) (5 : Int).toNat = 3421780262 by rw [hp, hq]; exact alive_join] at J
  rw [show sm (ad p [53, 54, 55, 56, 57]) = 3421780262 by rw [hp]; exact alive_sum] at S1
  rw [← hp] at C1
  rw [← hq] at C2
  clear hp hq p1 q1
  go_enter Try.func8, Try.ntmps8
  go_wp2_with fail
  refine (start_any _).mono ?_
  rintro _ _ ⟨rfl, rfl⟩
  go_wp2_with fail
  refine (C1 _ _ (bat_mark _ _ _ _ _ (by simp) rfl)).out.mono ?_
  rintro _ _ ⟨rfl, rfl⟩
  go_wp2_with fail
  refine (start_any _).mono ?_
  rintro _ _ ⟨rfl, rfl⟩
  go_wp2_with fail
  refine (C2 _ _ (bat_mark _ _ _ _ _ (by simp) rfl)).out.mono ?_
  rintro _ _ ⟨rfl, rfl⟩
  go_wp2_with fail
  refine (C3 _ _ (bat_mark _ _ _ _ _ (by simp) rfl)).out.mono ?_
  rintro _ _ ⟨rfl, rfl⟩
  go_wp2_with fail
  refine (S1 _).out.mono ?_
  rintro _ _ ⟨rfl, rfl⟩
  go_wp2_with fail
  refine (S2 _).out.mono ?_
  rintro _ _ ⟨rfl, rfl⟩
  go_wp2_with fail
  refine (S3 _).out.mono ?_
  rintro _ _ ⟨rfl, rfl⟩
  go_wp2_with fail
  refine (J _).out.mono ?_
  rintro _ w1 ⟨rfl, hb1⟩
  have HW := Lib.hid (((((RowKit.Below.refl w.heap.size w).alloc (Nat.le_refl _) _).alloc (by simp) _).alloc (by simp; omega) _).trans (hb1.mono (by simp; omega)))
  clear hb1
  go_wp2
  go_ret
  exact ⟨rfl, HW.out⟩
end Go.Proofs.Ytfbbkoibccndkaa
