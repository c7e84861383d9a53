/- The walk of falseworklaw02.ShareCuts. -/
import Derived.Test.YtaebbfaheaghfaaCutsH
namespace Go.Proofs.Ytaebbfaheaghfaa
open Go.RowKit Go.Shelf Go.Sort

set_option maxHeartbeats 400000 in
set_option maxRecDepth 100000 in
theorem cuts_long (a0 : Option Addr) (n cap : Nat) (t : Int) (w : World) (h : 70 < n) :
    Calls Try.prog 5 #[.int .i64 t, .slice a0 n cap] w fun e w' => e = .returned (.bool true) ∧ RowKit.Below w.heap.size w w' := by
  have d1 : decide ((70 : Int) < (n : Int)) = true := by simp only [decide_eq_true_eq]; omega
  go_enter Try.func5, Try.ntmps5
  go_wp2_with fail
  refine (alive2_any _).mono ?_
  rintro e w1 ⟨rfl, hw1⟩
  go_wp2
  go_ret
  exact ⟨rfl, hw1⟩

set_option maxHeartbeats 400000 in
set_option maxRecDepth 100000 in
theorem cuts_core (a0 : Option Addr) (l : List Int) (cap : Nat) (t : Int) (w : World) (hl : l.length ≤ 70) (hc : a0 = none → cap = 0 ∧ l = []) (hT : I t) (hI : ∀ y ∈ l, I y) (hr : RowAt .i64 w a0 l) :
    Calls Try.prog 5 #[.int .i64 t, .slice a0 l.length cap] w fun e w' => e = .returned (.bool true) ∧ RowKit.Below w.heap.size w w' := by
  have HR := Lib.hid hr
  have HI := Lib.hid hI
  have HC := Lib.hid hc
  clear hr hI hc
  have d1 : decide ((70 : Int) < (l.length : Int)) = false := by simp only [decide_eq_false_iff_not]; omega
  go_enter Try.func5, Try.ntmps5
  go_wp2_with fail
  refine (alive2_any _).mono ?_
  rintro e w1 ⟨rfl, hb1⟩
  have hz1 := hb1.size
  have HB1 := Lib.hid hb1
  have HR1 := Lib.hid ((HR.out.below hb1).below ((RowKit.Below.refl _ _).alloc (Nat.le_refl _) (.cells #[] 2)))
  clear hb1
  go_wp2_with (at_builtin; refine wpList_app3 rfl _ _ rfl w w.heap.size (.slice (some ⟨w1.heap.size, 0, none⟩) 0 0) [] l a0 cap l.length (by rfl) (by rfl) rfl (OW.lit hz1) HC.out HR1.out (by simp; omega) (HB1.out.alloc hz1 _) (by simp; omega) ?_; intro v3 w3 ho3 hb3 hz3)
  obtain ⟨a3, c3, hv3, hr3⟩ := ho3.row
  rw [List.nil_append] at hv3 hr3
  subst hv3
  have HB3 := Lib.hid hb3
  have HO3 := Lib.hid hr3
  have HR3 := Lib.hid (HR.out.below hb3)
  clear ho3 hr3 hb3 HB1 HR1
  have C1 := Lib.hid (cut_res a3 l c3 t w3 hT HI.out HO3.out)
  go_wp2_with fail
  refine C1.out.mono ?_
  rintro e w4 ⟨v4, k4, x, er, sp4, rfl, hb4, hx4⟩
  have HO4 := Lib.hid (HO3.out.below hb4)
  have HR4 := Lib.hid (HR3.out.below hb4)
  have HX4 := Lib.hid hx4
  have HB4 := Lib.hid (HB3.out.trans (hb4.mono hz3))
  have hz4 : w.heap.size ≤ w4.heap.size := Nat.le_trans hz3 hb4.size
  have HS := Lib.hid sp4
  clear hb4 hx4 sp4 HO3 HR3 HB3 hz3 C1
  have C2 := Lib.hid (rcut_res a0 l cap t w4 hT HI.out HR4.out)
  go_wp2_with fail
  refine C2.out.mono ?_
  rintro e w5 ⟨v5, k5, y, er5, sp5, rfl, hb5, hy5⟩
  obtain ⟨rfl, rfl⟩ := spec_one HS.out sp5
  have hxl := spec_len HS.out hl
  have HO5 := Lib.hid (HO4.out.below hb5)
  have HR5 := Lib.hid (HR4.out.below hb5)
  have HX5 := Lib.hid (HX4.out.below hb5)
  have HY5 := Lib.hid hy5
  have HB5 := Lib.hid (HB4.out.trans (hb5.mono hz4))
  clear hb5 hy5 sp5 HO4 HR4 HX4 HB4 hz4 C2 HS
  have S1 := Lib.hid (same_any v4 v5 k4 k5 x x w5 HX5.out HY5.out (by omega))
  have S2 := fun q => Lib.hid (same_any a3 a0 c3 cap l l (w5.drewN q) (HO5.out.below (below_drewN (RowKit.Below.refl _ _) q)) (HR5.out.below (below_drewN (RowKit.Below.refl _ _) q)) (by omega))
  rw [show decide (x = x) = true by simp] at S1
  have S3 : ∀ q, Hid (Calls Try.prog 25 #[.slice a3 l.length c3, .slice a0 l.length cap] (w5.drewN q) (Said true (w5.drewN q))) := fun q => by
    have := S2 q
    rw [show decide (l = l) = true by simp] at this
    exact this
  clear S2
  have de : (er == er) = true := by simp
  go_wp2_with fail
  refine S1.out.mono ?_
  rintro e w6 ⟨rfl, q, rfl⟩
  go_wp2_with fail
  refine (S3 q).out.mono ?_
  rintro e w7 ⟨rfl, q2, rfl⟩
  go_wp2_with fail
  go_ret
  exact ⟨rfl, below_drewN HB5.out _⟩

theorem shareCuts_walk (a0 : Int) (a1 : Option Addr) (len1 cap1 : Nat) (z1 : List Int) (w : World) (w0 : (Lit.int .i64 a0).wf = true) (w1 : IsRow .i64 w a1 len1 cap1 z1) :
    Calls Try.prog 5 #[.int .i64 a0, .slice a1 len1 cap1] w fun e w' => e = .returned (.bool true) ∧ RowKit.Below w.heap.size w w' := by
  obtain ⟨hr, hlen, hI, hm⟩ := row_of w1
  have hT := I_of_wf w0
  by_cases hout : 70 < len1
  · exact cuts_long a1 len1 cap1 a0 w hout
  · have hc : a1 = none → cap1 = 0 ∧ z1.take len1 = [] := by
      rintro rfl
      rcases w1 with ⟨_, h2, h3, h4⟩ | ⟨x, h, _⟩
      · exact ⟨h3, by rw [h4]; simp⟩
      · cases h
    generalize z1.take len1 = l at *
    subst hlen
    exact cuts_core a1 l cap1 a0 w (by omega) hc hT hI hr
end Go.Proofs.Ytaebbfaheaghfaa
