/- slices.rotateCmpFunc at []int. -/
import Derived.Test.YtaebbfaheaghfaaSwapR
namespace Go.Proofs.Ytaebbfaheaghfaa
open Go.RowKit Go.Shelf Go.Sort Go.Lib

/-- the places from x on, i of them, and the j behind them, turned -/
structure Rot {α : Type} [Inhabited α] (d d' : Array α) (x i j : Nat) : Prop where
  size : d'.size = d.size
  fst : ∀ k, k < j → d'[x + k]! = d[x + i + k]!
  snd : ∀ k, k < i → d'[x + j + k]! = d[x + k]!
  out : ∀ k, (k < x ∨ x + i + j ≤ k) → d'[k]! = d[k]!

section
variable {α : Type} [Inhabited α] {d e d' : Array α} {x i j : Nat}
theorem rot_left (h : SwR d e x (x + (i + j)) j) (r : Rot e d' (x + j) i j) : Rot d d' x (i + j) j := by
  refine ⟨by rw [r.size, h.size], fun k hk => ?_, fun k hk => ?_, fun k hk => ?_⟩
  · rw [r.out (x + k) (by omega), h.fst k hk]
  · by_cases e1 : k < j
    · have h1 := r.fst k e1
      have h2 := h.snd k e1
      rw [show x + (i + j) + k = x + j + i + k by omega] at h2
      rw [h1, h2]
    · have h1 := r.snd (k - j) (by omega)
      rw [show x + j + j + (k - j) = x + j + k by omega] at h1
      rw [h1, show x + j + (k - j) = x + k by omega, h.out (x + k) (by omega) (by omega)]
  · rw [r.out k (by omega), h.out k (by omega) (by omega)]
theorem rot_right (h : SwR d e x (x + i + j) i) (r : Rot e d' x i j) : Rot d d' x i (j + i) := by
  refine ⟨by rw [r.size, h.size], fun k hk => ?_, fun k hk => ?_, fun k hk => ?_⟩
  · by_cases e1 : k < j
    · rw [r.fst k e1, h.out (x + i + k) (by omega) (by omega)]
    · have h1 := r.snd (k - j) (by omega)
      rw [show x + j + (k - j) = x + k by omega] at h1
      rw [h1, h.fst (k - j) (by omega)]
      congr 1; omega
  · have h1 := h.snd k hk
    rw [show x + (j + i) + k = x + i + j + k by omega, r.out _ (by omega), h1]
  · rw [r.out k (by omega), h.out k (by omega) (by omega)]
theorem rot_even (h : SwR d e x (x + i) i) : Rot d e x i i := by
  refine ⟨h.size, fun k hk => h.fst k hk, fun k hk => h.snd k hk, fun k hk => h.out k (by omega) (by omega)⟩
end

set_option maxHeartbeats 16000000 in
set_option maxRecDepth 1000000 in
theorem rotate_any {q : Nat} (blk cap a m b : Nat) (fv : Value) (d0 d : Array (Fin (q + 1))) (w0 w : World) (R : Row1 encP w0 blk 0 d0) (hs : d0.size = d.size) (S : SW encP w0 blk 0 d w) (ham : a < m) (hmb : m < b) (hb : b ≤ d.size) (hsz : d.size < 1000000) :
    Calls Try.prog 67 #[.slice (some ⟨blk, 0, none⟩) d.size cap, .int .i64 a, .int .i64 m, .int .i64 b, fv] w fun e w' => e = .returned (.tuple #[]) ∧ ∃ d', Rot d d' a (m - a) (b - m) ∧ SW encP w0 blk 0 d' w' := by
  have S0 := Lib.hid S
  obtain ⟨z, hz⟩ : ∃ z, z = d.size := ⟨_, rfl⟩
  have HZ := Lib.hid hz
  rw [← hz] at hs hb hsz ⊢
  clear S hz
  have C : ∀ (x y n : Nat) (dk : Array (Fin (q + 1))) (W : World), dk.size = z → SW encP w0 blk 0 dk W → x + n ≤ y → y + n ≤ z → Hid (Calls Try.prog 68 #[.slice (some ⟨blk, 0, none⟩) z cap, .int .i64 x, .int .i64 y, .int .i64 n, fv] W fun e w' => e = .returned (.tuple #[]) ∧ ∃ d', SwR dk d' x y n ∧ SW encP w0 blk 0 d' w') := fun x y n dk W h1 h2 h3 h4 => by
    have h := swapR_any blk cap x y n fv d0 dk w0 W R (by omega) h2 h3 (by omega) (by omega)
    rw [h1] at h
    exact h
  go_enter Try.func67, Try.ntmps67
  go_wp2
  go_loopg [10, 11] (b - a) (fun g c10 c11 wr => ∃ (i j x : Nat) (dk : Array (Fin (q + 1))), c10 = .int .i64 i ∧ c11 = .int .i64 j ∧ i + j ≤ g ∧ 0 < i ∧ 0 < j ∧ x + i = m ∧ m + j ≤ b ∧ Hid (dk.size = z) ∧ Hid (∀ d', Rot dk d' x i j → Rot d d' a (m - a) (b - m)) ∧ Hid (SW encP w0 blk 0 dk wr))
  case atStart =>
    refine ⟨m - a, b - m, a, d, by congr 1; omega, by congr 1; omega, by omega, by omega, by omega, by omega, by omega, HZ.out.symm, fun d' h => h, S0.out⟩
  case round =>
    obtain ⟨i, j, x, dk, rfl, rfl, hg, hi0, hj0, hxm, hjb, HD, HT, HS⟩ := hrel
    clear S0
    have em : (m : Int) - (i : Int) = (x : Int) := by omega
    rcases Nat.lt_trichotomy i j with hlt | heq | hgt
    · have hne : ((i : Int) != (j : Int)) = true := by simp; omega
      have hne' : ¬ ((i : Int) = (j : Int)) := by omega
      have hng : decide ((j : Int) < (i : Int)) = false := by simp only [decide_eq_false_iff_not]; omega
      have hng' : ¬ ((j : Int) < (i : Int)) := by omega
      obtain ⟨j', hj'⟩ : ∃ j', j = j' + i := ⟨j - i, by omega⟩
      obtain ⟨y, hy⟩ : ∃ y, y = x + i + j' := ⟨_, rfl⟩
      have ey : (m : Int) + (j : Int) - (i : Int) = (y : Int) := by omega
      have ej : (j : Int) - (i : Int) = (j' : Int) := by omega
      have C1 := C x y i dk wr HD.out HS.out (by omega) (by omega)
      have HJ := Lib.hid hj'
      have HY := Lib.hid hy
      have j0 : 0 < j' := by omega
      have g0 : i + j' < gk := by omega
      have g1 : m + j' ≤ b := by omega
      clear hj' hy HS C
      go_wp2_with fail
      (with_reducible refine C1.out.mono ?_)
      rintro e w1 ⟨rfl, d2, hW, hS⟩
      have HW := Lib.hid hW
      have HS2 := Lib.hid hS
      clear hW hS
      go_wp2
      go_roundg (i + j')
      case measure => omega
      case rel =>
        refine ⟨i, j', x, d2, rfl, by first | rfl | go_num, Nat.le_refl _, hi0, j0, hxm, g1, HW.out.size.trans HD.out, fun d' r => HT.out d' ?_, HS2.out⟩
        have hw := HW.out
        rw [HY.out] at hw
        have := rot_right hw r
        rw [← HJ.out] at this
        exact this
    · subst heq
      have hne : ((i : Int) != (i : Int)) = false := by simp
      have C1 := C x m i dk wr HD.out HS.out (by omega) (by omega)
      clear HS C
      go_wp2_with fail
      (with_reducible refine C1.out.mono ?_)
      rintro e w1 ⟨rfl, d2, hW, hS⟩
      have HW := Lib.hid hW
      have HS2 := Lib.hid hS
      clear hW hS
      go_wp2
      go_end0
      refine ⟨rfl, d2, HT.out d2 ?_, HS2.out⟩
      have hw := HW.out
      rw [← hxm] at hw
      exact rot_even hw
    · have hne : ((i : Int) != (j : Int)) = true := by simp; omega
      have hne' : ¬ ((i : Int) = (j : Int)) := by omega
      have hng : decide ((j : Int) < (i : Int)) = true := by simp only [decide_eq_true_eq]; omega
      have hng' : (j : Int) < (i : Int) := by omega
      obtain ⟨i', hi'⟩ : ∃ i', i = i' + j := ⟨i - j, by omega⟩
      have ei : (i : Int) - (j : Int) = (i' : Int) := by omega
      have C1 := C x m j dk wr HD.out HS.out (by omega) (by omega)
      have HI := Lib.hid hi'
      have i0 : 0 < i' := by omega
      have g0 : i' + j < gk := by omega
      have g1 : x + j + i' = m := by omega
      clear hi' HS C
      go_wp2_with fail
      (with_reducible refine C1.out.mono ?_)
      rintro e w1 ⟨rfl, d2, hW, hS⟩
      have HW := Lib.hid hW
      have HS2 := Lib.hid hS
      clear hW hS
      go_wp2
      go_roundg (i' + j)
      case measure => omega
      case rel =>
        refine ⟨i', j, x + j, d2, by first | rfl | go_num, rfl, Nat.le_refl _, i0, hj0, g1, hjb, HW.out.size.trans HD.out, fun d' r => HT.out d' ?_, HS2.out⟩
        have hw := HW.out
        rw [← hxm, HI.out] at hw
        have := rot_left hw r
        rw [← HI.out] at this
        exact this
end Go.Proofs.Ytaebbfaheaghfaa
