/- slices.SortStableFunc of fewer than twenty places. -/
import Derived.Test.YtejbblpgdlanoaaSortMath
namespace Go.Proofs.Ytejbblpgdlanoaa
open Go.RowKit Go.Shelf Go.Sort

abbrev gP : Nat := 62
theorem eg_any : ∀ args w, (callFunc gP args).run Try.prog w = .ok (.enter gP args) w := enters_of Try.func62 (by kernel_rfl) rfl

theorem ins_any {n : Nat} {r : Fin (n + 1) → Int} {cb : Array Value} {blk : Nat} (a b cap : Nat) {d0 d : Array (Fin (n + 1))} {w0 w : World} (hcmp : CmpLays1 Try.prog gP cb encP (cfP r) blk 0 d0.size w0) (R : Row1 encP w0 blk 0 d0)
    (hs : d0.size = d.size) (S : SW encP w0 blk 0 d w) (hab : a ≤ b) (hb : b ≤ d.size) (hsz : d.size < 4611686018427387904) :
    Calls Try.prog 68 #[.slice (some ⟨blk, 0, none⟩) d.size cap, .int .i64 a, .int .i64 b, .func (.func gP) #[] cb] w fun e w' => e = .returned (.tuple #[]) ∧ SW encP w0 blk 0 (insertionSort (ltOf (cfP r)) d a b) w' :=
  Any.insertionSortCmpFunc_s srtLay encP (cfP r) gP cb blk 0 cap a b d0 d w0 w eg_any hcmp R hs S hab hb hsz

set_option maxHeartbeats 4000000 in
theorem stable_small {n : Nat} {r : Fin (n + 1) → Int} {cb : Array Value} {blk : Nat} (cap : Nat) {d0 d : Array (Fin (n + 1))} {w0 w : World} (hcmp : CmpLays1 Try.prog gP cb encP (cfP r) blk 0 d0.size w0) (R : Row1 encP w0 blk 0 d0)
    (hs : d0.size = d.size) (S : SW encP w0 blk 0 d w) (h20 : d.size < 20) :
    Calls Try.prog 66 #[.slice (some ⟨blk, 0, none⟩) d.size cap, .int .i64 d.size, .func (.func gP) #[] cb] w fun e w' => e = .returned (.tuple #[]) ∧ SW encP w0 blk 0 (insertionSort (ltOf (cfP r)) d 0 d.size) w' := by
  have H := Lib.hid (ins_any (r := r) 0 d.size cap hcmp R hs S (Nat.zero_le _) (Nat.le_refl _) (by omega))
  clear hcmp R hs S
  have d1 : decide ((20 : Int) ≤ (d.size : Int)) = false := by simp only [decide_eq_false_iff_not]; omega
  have d2 : decide ((20 : Int) < (d.size : Int)) = false := by simp only [decide_eq_false_iff_not]; omega
  go_enter Try.func66, Try.ntmps66
  go_wp2
  refine wp_loop_rounds 1 ?_
  rw [rounds_succ]
  go_wp2_with fail
  refine H.out.mono ?_
  rintro e w1 ⟨rfl, S1⟩
  have S2 := Lib.hid S1
  clear S1
  go_wp2
  refine wp_loop_rounds 1 ?_
  rw [rounds_succ]
  go_wp2
  go_end0
  exact ⟨rfl, S2.out⟩

set_option maxHeartbeats 4000000 in
theorem sort_small {n : Nat} {r : Fin (n + 1) → Int} {cb : Array Value} {blk : Nat} (cap : Nat) {d0 d : Array (Fin (n + 1))} {w0 w : World} (hcmp : CmpLays1 Try.prog gP cb encP (cfP r) blk 0 d0.size w0) (R : Row1 encP w0 blk 0 d0)
    (hs : d0.size = d.size) (S : SW encP w0 blk 0 d w) (h20 : d.size < 20) :
    Calls Try.prog 61 #[.slice (some ⟨blk, 0, none⟩) d.size cap, .func (.func gP) #[] cb] w fun e w' => e = .returned (.tuple #[]) ∧ SW encP w0 blk 0 (insertionSort (ltOf (cfP r)) d 0 d.size) w' := by
  have H := Lib.hid (stable_small (r := r) cap hcmp R hs S h20)
  clear hcmp R hs S
  go_enter Try.func61, Try.ntmps61
  go_wp2_with fail
  refine H.out.mono ?_
  rintro e w1 ⟨rfl, S1⟩
  have S2 := Lib.hid S1
  clear S1
  go_wp2
  go_end0
  exact ⟨rfl, S2.out⟩
end Go.Proofs.Ytejbblpgdlanoaa
